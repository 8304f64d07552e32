/- The document's Decode. -/
import Derived.Test.YtdcnkdkhanmklaaRDecM
namespace Go.Proofs.Ytdcnkdkhanmklaa.RDec1
open Go.RowKit Go.Maps
open Go.Proofs.Ytdcnkdkhanmklaa.SetMath
open Go.Proofs.Ytdcnkdkhanmklaa.BytesMath
open Go.Proofs.Ytdcnkdkhanmklaa.ValueMath
open Go.Proofs.Ytdcnkdkhanmklaa.ReadMath
open Go.Proofs.Ytdcnkdkhanmklaa.Base
open Go.Proofs.Ytdcnkdkhanmklaa.Vals
open Go.Proofs.Ytdcnkdkhanmklaa.Rdr (ptr At)
open Go.Proofs.Ytdcnkdkhanmklaa.RVal (zO kO)
open Go.Proofs.Ytdcnkdkhanmklaa.RRd
open Go.Proofs.Ytdcnkdkhanmklaa.Dec
open Go.Proofs.Ytdcnkdkhanmklaa.RDecM
open Go.Proofs.Ytdcnkdkhanmklaa.Copy (nr_set row_set set5)
open Go.Proofs.Ytdcnkdkhanmklaa.REnc5 (step_app)
set_option linter.unusedVariables false
set_option linter.unusedSimpArgs false
set_option maxHeartbeats 8000000 in
set_option maxRecDepth 100000 in
theorem dec1 (S r1 : Bs) (w : World) (hl : S.length ≤ 140737488355328) (hr : rdN 1 S = some (1, r1)) : Calls Try.prog 22 #[.string (mk S)] w (RT S w) := by
  have HZ0 : Hid (valS S = bodyS 1 r1) := hid_of (by unfold valS; rw [hr]; rfl)
  obtain ⟨V, hV⟩ : ∃ V, V = (w.alloc zO).alloc (.cells #[.string (mk S), .int .i64 0, .bool false] 78) := ⟨_, rfl⟩
  have bV : Below w.heap.size w V := by rw [hV]; exact FRow.bel (FRow.bnew w _) (FRow.bnew _ _) (Nat.le_refl _)
  have sV : V.heap.size = w.heap.size + 2 := by rw [hV]; simp
  have v0 : V.heap[w.heap.size]? = some zC := by rw [hV, heap_alloc_old _ _ _ (by simp)]; exact heap_alloc_new w _
  have v1 : RR (w.heap.size + 1) S (S, false) V := ⟨0, Nat.zero_le _, by simp, by
    have := heap_alloc_new (w.alloc zO) (.cells #[.string (mk S), .int .i64 0, .bool false] 78)
    rw [hV]
    simpa using this⟩
  have HN := hid_of (number_call (w.heap.size + 1) 1 S (S, false) V v1 hl (by decide))
  have HV := hid_of hV
  have H0 : Hid (∀ (W : World) (s : RS) (k : Int), RR (w.heap.size + 1) S s W → Fr (At (w.heap.size + 1)) V W → DI w W.heap.size S s (.int .i64 k) (.string ⟨#[]⟩) (.slice none 0 0) (.slice none 0 0) (.slice none 0 0) (W.alloc (kO k))) := hid_of fun W s k hr hf => by
    have bw : Below W.heap.size W (W.alloc (kO k)) := FRow.bnew W _
    have sz := hf.size
    exact ⟨(bw.block _ (by omega)).trans ((hf.block _ (by omega) (by intro e; have : w.heap.size = w.heap.size + 1 := e; omega)).trans v0), rr_keep hr (bw.block _ (by omega)), heap_alloc_new W _, by omega, FRow.bel (bV.trans (hf.below (by omega) (fun k e => by have : k = w.heap.size + 1 := e; omega))) bw (Nat.le_refl _)⟩
  clear v0 v1 bV hV
  rw [nb_some (by decide) (by decide) hr] at HN
  clear hr
  go_enter Try.func22, Try.ntmps22
  go_wp2_with fail
  rw [← HV.out]
  refine HN.out.mono ?_
  rintro e w1 ⟨rfl, d1, f1⟩
  have hlt1 : w.heap.size + 2 ≤ w1.heap.size := by have := f1.size; omega
  have D1 := hid_of (H0.out w1 _ 1 d1 f1)
  obtain ⟨W, hW⟩ : ∃ W, W = w1.alloc (kO 1) := ⟨_, rfl⟩
  rw [← hW] at D1
  have HW := hid_of hW
  clear hW d1 f1 HN H0 sV
  have H4 := hid_of (text_call (w.heap.size + 1) S (r1, false) W D1.out.rr hl)
  obtain ⟨⟨q0, q1, q2, q3, q4⟩, _⟩ := box5 D1.out.bp
  cases hr4 : rdT r1 with
  | none =>
    obtain ⟨r', e4⟩ := tx_none hr4
    rw [e4] at H4
    have HD : Hid (decV S = (zV, 0, 132)) := hid_of (dec_none (HZ0.out.trans (by show (rdT r1).bind _ = none; rw [hr4]; rfl)))
    clear hr4 e4
    go_wp2_with fail
    rw [← HW.out]
    refine H4.out.mono ?_
    rintro e w2 ⟨rfl, d2, f2⟩
    have D2 := hid_of (D1.out.call d2 f2)
    have D3 := hid_of (D2.out.set1 (.string (mk [])))
    obtain ⟨ka, hka, hsa, ha⟩ := d2
    obtain ⟨⟨u0, u1, u2⟩, _⟩ := box3 ha
    have hz1 := (box5 D2.out.bp).2 1
    obtain ⟨⟨y0, y1, y2, y3, y4⟩, _⟩ := box5 D2.out.bp
    obtain ⟨⟨p0, p1, p2, p3, p4⟩, pz⟩ := box5 D2.out.b0
    have pz0 := pz 0
    have pz1 := pz 1
    have pz2 := pz 2
    have pz3 := pz 3
    have pz4 := pz 4
    clear f2 hka hsa ha q0 q1 q2 q3 q4 H4 pz
    go_wp2_with fail
    obtain ⟨⟨g0, g1, g2, g3, g4⟩, _⟩ := box5 (set5 D3.out.b0 (.int .i64 0) (.string ⟨#[]⟩) (.slice none 0 0) (.slice none 0 0) (.slice none 0 0))
    refine ⟨rfl, .tuple #[.agg #[.int .i64 0, .string ⟨#[]⟩, .slice none 0 0, .slice none 0 0, .slice none 0 0], .int .i64 0, .int .i64 132], ?_, .agg #[.int .i64 0, .string ⟨#[]⟩, .slice none 0 0, .slice none 0 0, .slice none 0 0], ?_, ?_, ?_⟩
    rotate_left
    · rw [HD.out]; rfl
    · rw [HD.out]; exact vz _ _
    · exact f5_b D3.out.bel (Nat.le_refl w.heap.size)
    · simp [results, Try.results22, go_sem, g0, g1, g2, g3, g4]
  | some qq =>
    obtain ⟨t, r2⟩ := qq
    rw [tx_some hr4] at H4
    have HVS : Hid (valS S = some (⟨1, t, [], [], []⟩, r2)) := hid_of (HZ0.out.trans (by show (rdT r1).bind _ = _; rw [hr4]; rfl))
    clear hr4
    go_wp2_with fail
    rw [← HW.out]
    refine H4.out.mono ?_
    rintro e w2 ⟨rfl, d2, f2⟩
    have D2 := hid_of (D1.out.call d2 f2)
    have D := hid_of (D2.out.set1 (.string (mk t)))
    obtain ⟨ka, hka, hsa, ha⟩ := d2
    obtain ⟨⟨u0, u1, u2⟩, _⟩ := box3 ha
    have hz1 := (box5 D2.out.bp).2 1
    obtain ⟨⟨y0, y1, y2, y3, y4⟩, _⟩ := box5 D2.out.bp
    have NV : Hid (VN (w1.heap.size + 1) (w2.setCell ⟨w1.heap.size, 1, none⟩ (.string (mk t))) (.agg #[.int .i64 1, .string (mk t), .slice none 0 0, .slice none 0 0, .slice none 0 0]) ⟨1, t, [], [], []⟩) := hid_of ⟨_, _, _, rfl, .inl ⟨rfl, rfl⟩, FRow.or_nil _ _, ERow.or_nil _ _⟩
    clear f2 hka hsa ha q0 q1 q2 q3 q4 H4
    have hw := val_wel HVS.out
    have HDS := hid_of (dec_some HVS.out)
    have HK := hid_of (RCheck.rcheck_call NV.out.va hw)
    clear hw
    obtain ⟨⟨q0, q1, q2, q3, q4⟩, _⟩ := box5 D.out.bp
    go_wp2_with fail
    refine HK.out.mono ?_
    rintro e w7 ⟨rfl, b7⟩
    have D7 := hid_of (D.out.low (b7.mono D.out.lt))
    have N7 := hid_of (NV.out.below b7)
    obtain ⟨⟨p0, p1, p2, p3, p4⟩, pz⟩ := box5 D7.out.b0
    have pz0 := pz 0
    have pz1 := pz 1
    have pz2 := pz 2
    have pz3 := pz 3
    have pz4 := pz 4
    obtain ⟨⟨t0, t1, t2, t3, t4⟩, _⟩ := box5 D7.out.bp
    obtain ⟨ka, hka, hsa, ha⟩ := D7.out.rr
    obtain ⟨⟨u0, u1, u2⟩, _⟩ := box3 ha
    have HKA : Hid ((r2).length = S.length - ka ∧ ka ≤ S.length) := hid_of ⟨by have := congrArg List.length hsa; simpa using this, hka⟩
    clear b7 pz HK q0 q1 q2 q3 q4 hka hsa ha
    by_cases h0 : chk ⟨1, t, [], [], []⟩ = 0
    · rw [if_pos h0] at HDS
      rw [h0]
      clear h0
      go_wp2_with fail
      go_region
      go_wp2_with fail
      obtain ⟨⟨g0, g1, g2, g3, g4⟩, _⟩ := box5 (set5 D7.out.b0 (.int .i64 1) (.string (mk t)) (.slice none 0 0) (.slice none 0 0) (.slice none 0 0))
      refine ⟨rfl, .tuple #[.agg #[(.int .i64 1), (.string (mk t)), (.slice none 0 0), (.slice none 0 0), (.slice none 0 0)], .int .i64 (ka : Int), .int .i64 0], ?_, .agg #[(.int .i64 1), (.string (mk t)), (.slice none 0 0), (.slice none 0 0), (.slice none 0 0)], ?_, ?_, ?_⟩
      rotate_left
      · rw [HDS.out]; have h1 := HKA.out.1; have h2 := HKA.out.2; rw [h1, show S.length - (S.length - ka) = ka by omega]
      · rw [HDS.out]
        exact (f5_vn (q := w.heap.size) N7.out (by have := D7.out.hp; omega)).mono (by have := D7.out.hp; omega)
      · exact (f5_b D7.out.bel (Nat.le_refl _)).drew
      · simp [results, Try.results22, go_sem, g0, g1, g2, g3, g4]
    · rw [if_neg h0] at HDS
      have hb0 : (chk ⟨1, t, [], [], []⟩ != 0) = true := by simpa using h0
      clear h0
      generalize chk ⟨1, t, [], [], []⟩ = E at *
      go_wp2_with fail
      obtain ⟨⟨g0, g1, g2, g3, g4⟩, _⟩ := box5 (set5 D7.out.b0 (.int .i64 0) (.string ⟨#[]⟩) (.slice none 0 0) (.slice none 0 0) (.slice none 0 0))
      refine ⟨rfl, .tuple #[.agg #[.int .i64 0, .string ⟨#[]⟩, .slice none 0 0, .slice none 0 0, .slice none 0 0], .int .i64 0, .int .i64 132], ?_, .agg #[.int .i64 0, .string ⟨#[]⟩, .slice none 0 0, .slice none 0 0, .slice none 0 0], ?_, ?_, ?_⟩
      rotate_left
      · rw [HDS.out]; rfl
      · rw [HDS.out]; exact vz _ _
      · exact f5_b D7.out.bel (Nat.le_refl w.heap.size)
      · simp [results, Try.results22, go_sem, g0, g1, g2, g3, g4]
end Go.Proofs.Ytdcnkdkhanmklaa.RDec1
