/- The document's Decode. -/
import Derived.Test.YtdcnkdkhanmklaaRDecM
import Derived.Test.YtdcnkdkhanmklaaRDec1
import Derived.Test.YtdcnkdkhanmklaaRDec2
import Derived.Test.YtdcnkdkhanmklaaRDec3
import Derived.Test.YtdcnkdkhanmklaaRDec4
import Derived.Test.YtdcnkdkhanmklaaRDec5
namespace Go.Proofs.Ytdcnkdkhanmklaa.RDec0
open Go.RowKit Go.Maps
open Go.Proofs.Ytdcnkdkhanmklaa.SetMath
open Go.Proofs.Ytdcnkdkhanmklaa.BytesMath
open Go.Proofs.Ytdcnkdkhanmklaa.ValueMath
open Go.Proofs.Ytdcnkdkhanmklaa.ReadMath
open Go.Proofs.Ytdcnkdkhanmklaa.Base
open Go.Proofs.Ytdcnkdkhanmklaa.Vals
open Go.Proofs.Ytdcnkdkhanmklaa.Rdr (ptr At)
open Go.Proofs.Ytdcnkdkhanmklaa.RVal (zO kO)
open Go.Proofs.Ytdcnkdkhanmklaa.RRd
open Go.Proofs.Ytdcnkdkhanmklaa.Dec
open Go.Proofs.Ytdcnkdkhanmklaa.RDecM
open Go.Proofs.Ytdcnkdkhanmklaa.Copy (nr_set row_set set5)
open Go.Proofs.Ytdcnkdkhanmklaa.REnc5 (step_app)
set_option linter.unusedVariables false
set_option linter.unusedSimpArgs false
theorem val_bad {S : Bs} (h : ∀ k r, rdN 1 S = some (k, r) → k ≠ 1 ∧ k ≠ 2 ∧ k ≠ 3 ∧ k ≠ 4 ∧ k ≠ 5) : valS S = none := by
  unfold valS
  cases e : rdN 1 S with
  | none => rfl
  | some q =>
    obtain ⟨k, r⟩ := q
    obtain ⟨h1, h2, h3, h4, h5⟩ := h k r e
    show bodyS k r = none
    unfold bodyS
    rw [if_neg h1, if_neg (by omega), if_neg h3, if_neg h5]
theorem chk_bad {k : Int} (h : k ≠ 1 ∧ k ≠ 2 ∧ k ≠ 3 ∧ k ≠ 4 ∧ k ≠ 5) : chk ⟨k, [], [], [], []⟩ = 130 := by
  unfold chk
  rw [if_pos (by show k < 1 ∨ 5 < k; omega)]
set_option maxHeartbeats 8000000 in
set_option maxRecDepth 100000 in
theorem dec0 (S : Bs) (K : Nat) (s1 : RS) (w : World) (hl : S.length ≤ 140737488355328) (hr : nbS 1 (S, false) = (K, s1)) (hK : K ≠ 1 ∧ K ≠ 2 ∧ K ≠ 3 ∧ K ≠ 4 ∧ K ≠ 5) (hv : valS S = none) : Calls Try.prog 22 #[.string (mk S)] w (RT S w) := by
  have hKb : K < 256 := by have := nb_lt 1 (S, false) (by decide); rw [hr] at this; simpa using this
  have HD := hid_of (dec_none hv)
  have hcv : IntKind.i64.wrap (K : Int) = (K : Int) := IntWalk.i64_in _ (by omega)
  obtain ⟨k1, k2, k3, k4, k5⟩ := hK
  have n1 : ((K : Int) == 1) = false := by simpa using (by omega : (K : Int) ≠ 1)
  have n2 : ((K : Int) == 2) = false := by simpa using (by omega : (K : Int) ≠ 2)
  have n3 : ((K : Int) == 3) = false := by simpa using (by omega : (K : Int) ≠ 3)
  have n4 : ((K : Int) == 4) = false := by simpa using (by omega : (K : Int) ≠ 4)
  have n5 : ((K : Int) == 5) = false := by simpa using (by omega : (K : Int) ≠ 5)
  have HKC := hid_of (chk_bad (k := (K : Int)) ⟨by omega, by omega, by omega, by omega, by omega⟩)
  have HKB := hid_of hKb
  clear hv k1 k2 k3 k4 k5 hKb
  obtain ⟨V, hV⟩ : ∃ V, V = (w.alloc zO).alloc (.cells #[.string (mk S), .int .i64 0, .bool false] 78) := ⟨_, rfl⟩
  have bV : Below w.heap.size w V := by rw [hV]; exact FRow.bel (FRow.bnew w _) (FRow.bnew _ _) (Nat.le_refl _)
  have sV : V.heap.size = w.heap.size + 2 := by rw [hV]; simp
  have v0 : V.heap[w.heap.size]? = some zC := by rw [hV, heap_alloc_old _ _ _ (by simp)]; exact heap_alloc_new w _
  have v1 : RR (w.heap.size + 1) S (S, false) V := ⟨0, Nat.zero_le _, by simp, by
    have := heap_alloc_new (w.alloc zO) (.cells #[.string (mk S), .int .i64 0, .bool false] 78)
    rw [hV]
    simpa using this⟩
  have HN := hid_of (number_call (w.heap.size + 1) 1 S (S, false) V v1 hl (by decide))
  have HV := hid_of hV
  have H0 : Hid (∀ (W : World) (s : RS) (k : Int), RR (w.heap.size + 1) S s W → Fr (At (w.heap.size + 1)) V W → DI w W.heap.size S s (.int .i64 k) (.string ⟨#[]⟩) (.slice none 0 0) (.slice none 0 0) (.slice none 0 0) (W.alloc (kO k))) := hid_of fun W s k hr hf => by
    have bw : Below W.heap.size W (W.alloc (kO k)) := FRow.bnew W _
    have sz := hf.size
    exact ⟨(bw.block _ (by omega)).trans ((hf.block _ (by omega) (by intro e; have : w.heap.size = w.heap.size + 1 := e; omega)).trans v0), rr_keep hr (bw.block _ (by omega)), heap_alloc_new W _, by omega, FRow.bel (bV.trans (hf.below (by omega) (fun k e => by have : k = w.heap.size + 1 := e; omega))) bw (Nat.le_refl _)⟩
  clear v0 v1 bV hV
  rw [hr] at HN
  clear hr
  go_enter Try.func22, Try.ntmps22
  go_wp2_with fail
  rw [← HV.out]
  refine HN.out.mono ?_
  rintro e w1 ⟨rfl, d1, f1⟩
  have hlt1 : w.heap.size + 2 ≤ w1.heap.size := by have := f1.size; omega
  have D1 := hid_of (H0.out w1 _ (K : Int) d1 f1)
  obtain ⟨W, hW⟩ : ∃ W, W = w1.alloc (kO (K : Int)) := ⟨_, rfl⟩
  rw [← hW] at D1
  have HW := hid_of hW
  clear hW d1 f1 HN H0 sV
  have H4 := hid_of (number_call (w.heap.size + 1) 4 S s1 W D1.out.rr hl (by decide))
  obtain ⟨⟨q0, q1, q2, q3, q4⟩, _⟩ := box5 D1.out.bp
  obtain ⟨n, hn⟩ : ∃ n, n = (nbS 4 s1).1 := ⟨_, rfl⟩
  obtain ⟨⟨r2, f⟩, hs2⟩ : ∃ s, s = (nbS 4 s1).2 := ⟨_, rfl⟩
  rw [← hn, ← hs2] at H4
  have hnb : n < 4294967296 := by have := nb_lt 4 s1 (by decide); rw [hn]; simpa using this
  clear hn hs2
  go_wp2_with fail
  rw [← HW.out]
  refine H4.out.mono ?_
  rintro e w2 ⟨rfl, d2, f2⟩
  have D2 := hid_of (D1.out.call d2 f2)
  clear f2 d2 q0 q1 q2 q3 q4 H4
  go_wp2_with fail
  go_loopg [8] 1 (fun g s8 wx => ∃ (k : Nat) (f' : Bool), s8 = .int .u64 (k : Int) ∧ k ≤ 1 ∧ 1 ≤ k + g ∧ (k = 1 → f' = true) ∧ Hid (DI w w1.heap.size S (r2, f') (.int .i64 (K : Int)) (.string ⟨#[]⟩) (.slice none 0 0) (.slice none 0 0) (.slice none 0 0) wx))
  case atStart => exact ⟨0, f, rfl, by omega, by omega, fun h => by omega, D2⟩
  case round =>
    clear D2
    obtain ⟨k, f', rfl, hk1, hg, hkf, D⟩ := hrel
    obtain ⟨ka, hka, hsa, ha⟩ := D.out.rr
    obtain ⟨⟨u0, u1, u2⟩, uz⟩ := box3 ha
    have uz2 := uz 2
    simp only at u2
    have HST : Hid (DI w w1.heap.size S (r2, true) (.int .i64 (K : Int)) (.string ⟨#[]⟩) (.slice none 0 0) (.slice none 0 0) (.slice none 0 0) (wr.setCell ⟨w.heap.size + 1, 2, none⟩ (.bool true))) := hid_of (by
      have hp := D.out.hp
      exact ⟨(set_ne (by omega) _).trans D.out.b0, ⟨ka, hka, hsa, set_at ha _⟩, (set_ne (by omega) _).trans D.out.bp, hp, bset D.out.bel (by omega) _⟩)
    clear hka hsa ha uz
    cases f'
    · have hk0 : k = 0 := by
        rcases Nat.lt_or_ge k 1 with h | h
        · omega
        · exact absurd (hkf (by omega)) (by decide)
      subst hk0
      clear hkf
      by_cases hkn : 0 < n
      · obtain ⟨g', rfl⟩ : ∃ g', gk = g' + 1 := ⟨gk - 1, by omega⟩
        have d1 : (0 : Int) < (n : Int) := by omega
        have d1' : ((0 : Nat) : Int) < (n : Int) := by omega
        obtain ⟨⟨q0, q1, q2, q3, q4⟩, _⟩ := box5 D.out.bp
        go_wp2_with fail
        go_roundg g'
        case measure => omega
        case rel => exact ⟨1, true, rfl, by omega, by omega, fun _ => rfl, HST⟩
      · have hn0 : n = 0 := by omega
        subst hn0
        have NV : Hid (VN (w1.heap.size + 1) wr (.agg #[.int .i64 (K : Int), .string ⟨#[]⟩, .slice none 0 0, .slice none 0 0, .slice none 0 0]) ⟨(K : Int), [], [], [], []⟩) := hid_of ⟨_, _, _, rfl, .inl ⟨rfl, rfl⟩, FRow.or_nil _ _, ERow.or_nil _ _⟩
        have HK := hid_of (RCheck.rcheck_call NV.out.va (wel_of (by unfold small; simp) ⟨by simp, fun y hy => by simp at hy, fun y hy => by simp at hy, fun y hy => by simp at hy⟩))
        rw [HKC.out] at HK
        obtain ⟨⟨q0, q1, q2, q3, q4⟩, _⟩ := box5 D.out.bp
        clear hkn
        go_wp2_with fail
        refine HK.out.mono ?_
        rintro e w7 ⟨rfl, b7⟩
        have D7 := hid_of (D.out.low (b7.mono D.out.lt))
        clear b7 q0 q1 q2 q3 q4 HK
        obtain ⟨⟨p0, p1, p2, p3, p4⟩, pz⟩ := box5 D7.out.b0
        have pz0 := pz 0
        have pz1 := pz 1
        have pz2 := pz 2
        have pz3 := pz 3
        have pz4 := pz 4
        clear pz
        go_wp2_with fail
        obtain ⟨⟨g0, g1, g2, g3, g4⟩, _⟩ := box5 (set5 D7.out.b0 (.int .i64 0) (.string ⟨#[]⟩) (.slice none 0 0) (.slice none 0 0) (.slice none 0 0))
        refine ⟨rfl, .tuple #[.agg #[.int .i64 0, .string ⟨#[]⟩, .slice none 0 0, .slice none 0 0, .slice none 0 0], .int .i64 0, .int .i64 132], ?_, .agg #[.int .i64 0, .string ⟨#[]⟩, .slice none 0 0, .slice none 0 0, .slice none 0 0], ?_, ?_, ?_⟩
        rotate_left
        · rw [HD.out]; rfl
        · rw [HD.out]; exact vz _ _
        · exact f5_b D7.out.bel (Nat.le_refl w.heap.size)
        · simp [results, Try.results22, go_sem, g0, g1, g2, g3, g4]
    · by_cases hkn : k < n
      · have d1 : (k : Int) < (n : Int) := by omega
        obtain ⟨⟨p0, p1, p2, p3, p4⟩, pz⟩ := box5 D.out.b0
        have pz0 := pz 0
        have pz1 := pz 1
        have pz2 := pz 2
        have pz3 := pz 3
        have pz4 := pz 4
        clear pz
        go_wp2_with fail
        obtain ⟨⟨g0, g1, g2, g3, g4⟩, _⟩ := box5 (set5 D.out.b0 (.int .i64 0) (.string ⟨#[]⟩) (.slice none 0 0) (.slice none 0 0) (.slice none 0 0))
        refine ⟨rfl, .tuple #[.agg #[.int .i64 0, .string ⟨#[]⟩, .slice none 0 0, .slice none 0 0, .slice none 0 0], .int .i64 0, .int .i64 132], ?_, .agg #[.int .i64 0, .string ⟨#[]⟩, .slice none 0 0, .slice none 0 0, .slice none 0 0], ?_, ?_, ?_⟩
        rotate_left
        · rw [HD.out]; rfl
        · rw [HD.out]; exact vz _ _
        · exact f5_b D.out.bel (Nat.le_refl w.heap.size)
        · simp [results, Try.results22, go_sem, g0, g1, g2, g3, g4]
      · have d1 : ¬ (k : Int) < (n : Int) := by omega
        obtain ⟨⟨p0, p1, p2, p3, p4⟩, pz⟩ := box5 D.out.b0
        have pz0 := pz 0
        have pz1 := pz 1
        have pz2 := pz 2
        have pz3 := pz 3
        have pz4 := pz 4
        clear pz
        go_wp2_with fail
        obtain ⟨⟨g0, g1, g2, g3, g4⟩, _⟩ := box5 (set5 D.out.b0 (.int .i64 0) (.string ⟨#[]⟩) (.slice none 0 0) (.slice none 0 0) (.slice none 0 0))
        refine ⟨rfl, .tuple #[.agg #[.int .i64 0, .string ⟨#[]⟩, .slice none 0 0, .slice none 0 0, .slice none 0 0], .int .i64 0, .int .i64 132], ?_, .agg #[.int .i64 0, .string ⟨#[]⟩, .slice none 0 0, .slice none 0 0, .slice none 0 0], ?_, ?_, ?_⟩
        rotate_left
        · rw [HD.out]; rfl
        · rw [HD.out]; exact vz _ _
        · exact f5_b D.out.bel (Nat.le_refl w.heap.size)
        · simp [results, Try.results22, go_sem, g0, g1, g2, g3, g4]
theorem rdecode_call (S : Bs) (w : World) (hl : S.length ≤ 140737488355328) : Calls Try.prog 22 #[.string (mk S)] w (RT S w) := by
  cases hr : rdN 1 S with
  | none => exact dec0 S 0 (S, true) w hl (nb_none false hr) (by decide) (val_bad fun k r h => by rw [hr] at h; cases h)
  | some q =>
    obtain ⟨k, r1⟩ := q
    by_cases h1 : k = 1
    · subst h1; exact RDec1.dec1 S r1 w hl hr
    by_cases h2 : k = 2
    · subst h2; exact RDec2.dec2 S r1 w hl hr
    by_cases h3 : k = 3
    · subst h3; exact RDec3.dec3 S r1 w hl hr
    by_cases h4 : k = 4
    · subst h4; exact RDec4.dec4 S r1 w hl hr
    by_cases h5 : k = 5
    · subst h5; exact RDec5.dec5 S r1 w hl hr
    exact dec0 S k (r1, false) w hl (nb_some (by decide) (by decide) hr) ⟨h1, h2, h3, h4, h5⟩ (val_bad fun k' r h => by rw [hr] at h; injection h with h; injection h with e1 e2; subst e1; exact ⟨h1, h2, h3, h4, h5⟩)
end Go.Proofs.Ytdcnkdkhanmklaa.RDec0
