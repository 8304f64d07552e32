/- The law ValueBack. -/
import Derived.Test.YtdcnkdkhanmklaaApart
import Derived.Test.YtdcnkdkhanmklaaSame
import Derived.Test.YtdcnkdkhanmklaaRSame
namespace Go.Proofs.Ytdcnkdkhanmklaa.Back
open Go.RowKit Go.Maps
open Go.Proofs.Ytdcnkdkhanmklaa.SetMath
open Go.Proofs.Ytdcnkdkhanmklaa.BytesMath
open Go.Proofs.Ytdcnkdkhanmklaa.FixMath
open Go.Proofs.Ytdcnkdkhanmklaa.ValueMath
open Go.Proofs.Ytdcnkdkhanmklaa.Base
open Go.Proofs.Ytdcnkdkhanmklaa.Vals
open Go.Proofs.Ytdcnkdkhanmklaa.Check0
open Go.Proofs.Ytdcnkdkhanmklaa.Enc
open Go.Proofs.Ytdcnkdkhanmklaa.Dec
open Go.Proofs.Ytdcnkdkhanmklaa.Rdr (cut_to)
open Go.Proofs.Ytdcnkdkhanmklaa.Apart
set_option linter.unusedVariables false
set_option linter.unusedSimpArgs false

theorem decV_some {s : Bs} {x : Vl} {n : Nat} (h : decS s = some (x, n)) : decV s = (x, n, 0) := by unfold decV; rw [h]
theorem rt_some {s : Bs} {x : Vl} {m : Nat} (h : decS s = some (x, m)) {W : World} {e : Ending} {w' : World} (hr : RT s W e w') : ∃ a n c a' n' c' a'' n'' c'', e = .returned (.tuple #[.agg #[.int .i64 x.kind, .string (mk x.text), .slice a n c, .slice a' n' c', .slice a'' n'' c''], .int .i64 (m : Int), .int .i64 0]) ∧ VA w' (.agg #[.int .i64 x.kind, .string (mk x.text), .slice a n c, .slice a' n' c', .slice a'' n'' c'']) x ∧ Below W.heap.size W w' := by
  obtain ⟨v, h1, h2, h3⟩ := hr
  rw [decV_some h] at h1 h2
  obtain ⟨a, n, c, a', n', c', a'', n'', c'', rfl⟩ := Awake.vn_form h2
  exact ⟨a, n, c, a', n', c', a'', n'', c'', h1, h2.va, h3⟩
theorem rt_no {s : Bs} (h : decS s = none) {W : World} {e : Ending} {w' : World} (hr : RT s W e w') : ∃ a n c a' n' c' a'' n'' c'', e = .returned (.tuple #[.agg #[.int .i64 0, .string (mk []), .slice a n c, .slice a' n' c', .slice a'' n'' c''], .int .i64 0, .int .i64 132]) ∧ VA w' (.agg #[.int .i64 0, .string (mk []), .slice a n c, .slice a' n' c', .slice a'' n'' c'']) zV ∧ Below W.heap.size W w' := by
  obtain ⟨v, h1, h2, h3⟩ := hr
  rw [decV_none h] at h1 h2
  obtain ⟨a, n, c, a', n', c', a'', n'', c'', rfl⟩ := Awake.vn_form h2
  exact ⟨a, n, c, a', n', c', a'', n'', c'', h1, h2.va, h3⟩
theorem va_z (w : World) : VA w (.agg #[.int .i64 0, .string ⟨#[]⟩, .slice none 0 0, .slice none 0 0, .slice none 0 0]) zV := (vz 0 w).va
theorem fit_z : Fit zV := ⟨by decide, by decide, by decide⟩
/- the second half: what is read is written as it stood -/

set_option maxHeartbeats 4000000 in
set_option maxRecDepth 100000 in
theorem back_call {w : World} {u : Value} {x : Vl} (s : Bs) (hs : s.length ≤ 4194304) (h : VA w u x) (nx : Nc x) (hbig : (enc x).length ≤ 70368744177664) :
    Calls Try.prog 7 #[u, .string (mk s)] w fun e w' => e = .returned (.bool true) ∧ Below w.heap.size w w' := by
  have HE := hid_of fun (W : World) (hW : Below w.heap.size w W) => encode_call (h.below hW) nx.wel nx.sm (Nat.le_trans nx.len (by decide))
  have HK := hid_of fun (W : World) (hW : Below w.heap.size w W) => Check.check_call (h.below hW) nx.wel
  have HA := hid_of fun W => Awake.awake_call W
  have HD1 := hid_of fun W => decode_call (enc x ++ s) W (by rw [List.length_append]; omega)
  have HD2 := hid_of fun W => decode_call s W (by omega)
  have HSm := hid_of fun (W : World) (hW : Below w.heap.size w W) (v' : Value) (hv : VA W v' x) => And.intro (Same.same_call (h.below hW) hv nx.wel.toFit nx.wel.toFit) (fun (U : World) (hU : Below W.heap.size W U) => RSame.rsame_call ((h.below hW).below hU) (hv.below hU) nx.wel.toFit nx.wel.toFit)
  have NX := hid_of nx
  obtain ⟨a, b, c, rfl, h1, h2, h3⟩ := h
  obtain ⟨la, lc, rfl, _, _⟩ := id h1
  obtain ⟨fa, fc, rfl, _, _⟩ := id h2
  obtain ⟨ea, ec, rfl, _, _⟩ := id h3
  clear h1 h2 h3 nx
  generalize x.list.length = n1 at *
  generalize List.length x.fields = n2 at *
  generalize List.length x.ranked = n3 at *
  have hms := mk_size s
  obtain ⟨V, hV⟩ : ∃ V, V = w.alloc (.cells #[.int .i64 x.kind, .string (mk x.text), .slice la n1 lc, .slice fa n2 fc, .slice ea n3 ec] 26) := ⟨_, rfl⟩
  have bV : Below w.heap.size w V := by rw [hV]; exact FRow.bnew w _
  have v0 : V.heap[w.heap.size]? = some (.cells #[.int .i64 x.kind, .string (mk x.text), .slice la n1 lc, .slice fa n2 fc, .slice ea n3 ec] 26 (0, 0)) := by rw [hV]; exact heap_alloc_new w _
  have HV := hid_of hV
  have HX := hid_of fun (W : World) (hW : Below V.heap.size V W) => And.intro (FRow.bel bV hW (Nat.le_refl _)) (box5 ((hW.block _ (lt_of v0)).trans v0)).1
  have HB := hid_of bV
  clear v0 bV hV
  /- the second half, from any world -/
  have HTWO : Hid (∀ (W : World), Below w.heap.size w W → True) := hid_of fun _ _ => trivial
  go_enter Try.func7, Try.ntmps7
  go_wp2_with fail
  rw [← HV.out]
  refine (HE.out V HB.out).mono ?_
  rintro e w1 ⟨rfl, b1⟩
  obtain ⟨bb1, ⟨c0, c1, c2, c3, c4⟩⟩ := HX.out w1 b1
  have B1 := hid_of b1
  have BB1 := hid_of bb1
  clear b1 bb1 HE
  by_cases hx : chk x = 0
  · have ex : encV x = enc x := by unfold encV; rw [if_pos hx]
    rw [ex, hx]
    rw [hx] at HK
    have HDx := hid_of (dec_app x s hx NX.out.sm)
    have sx := mk_size (enc x)
    have smx := sm_self x
    have sadd : mk (enc x ++ s) = mk (enc x) ++ mk s := by apply ByteArray.ext; simp [mk]
    rw [sadd] at HD1
    have HL := hid_of sx
    have hb1 : (mk (enc x)).size ≤ 70368744177664 := by rw [sx]; exact hbig
    have hb2 : (mk s).size ≤ 4194304 := by rw [hms]; exact hs
    clear hx ex sadd hbig hs
    rw [← sx] at HDx
    have HMS := hid_of hms
    clear sx hms
    generalize mk (enc x) = S at *
    have HTT0 : Hid (mk s = mk s) := hid_of rfl
    obtain ⟨T, hT⟩ : ∃ T, T = mk s := ⟨_, rfl⟩
    rw [← hT] at HD2 hb2 HMS ⊢
    rw [← hT] at HD1
    have HTT := hid_of hT.symm
    clear hT HTT0
    go_wp2_with fail
    refine (HK.out w1 BB1.out).mono ?_
    rintro e w2 ⟨rfl, b2⟩
    have B2 := hid_of (FRow.bel B1.out b2 (Nat.le_refl _))
    have BB2 := hid_of (FRow.bel BB1.out b2 (Nat.le_refl _))
    clear b2 HK
    go_wp2_with fail
    refine (HA.out w2).mono ?_
    rintro e w3 ⟨rfl, b3⟩
    have B3 := hid_of (FRow.bel B2.out b3 (Nat.le_refl _))
    have BB3 := hid_of (FRow.bel BB2.out b3 (Nat.le_refl _))
    clear b3
    go_wp2_with fail
    refine (HD1.out w3).mono ?_
    rintro e w4 hrt
    obtain ⟨ga, gn, gc, ga', gn', gc', ga'', gn'', gc'', rfl, va4, b4⟩ := rt_some HDx.out hrt
    clear hrt HD1 HDx c0 c1 c2 c3 c4
    have B4 := hid_of (FRow.bel B3.out b4 (Nat.le_refl _))
    have BB4 := hid_of (FRow.bel BB3.out b4 (Nat.le_refl _))
    obtain ⟨W, hW⟩ : ∃ W, W = w4.alloc (.cells #[.int .i64 x.kind, .string (mk x.text), .slice ga gn gc, .slice ga' gn' gc', .slice ga'' gn'' gc''] 26) := ⟨_, rfl⟩
    have bW : Below w4.heap.size w4 W := by rw [hW]; exact FRow.bnew w4 _
    have w0 : W.heap[w4.heap.size]? = some (.cells #[.int .i64 x.kind, .string (mk x.text), .slice ga gn gc, .slice ga' gn' gc', .slice ga'' gn'' gc''] 26 (0, 0)) := by rw [hW]; exact heap_alloc_new w4 _
    have BW := hid_of (FRow.bel B4.out bW (Nat.le_refl _))
    have BBW := hid_of (FRow.bel BB4.out bW (Nat.le_refl _))
    have HS1 := hid_of (HSm.out W BBW.out _ (va4.below bW))
    rw [smx] at HS1
    obtain ⟨_, ⟨c0, c1, c2, c3, c4⟩⟩ := HX.out w4 B4.out
    have hlt4 : w.heap.size < w4.heap.size := Base.cell_lt c0
    have hne4 : w.heap.size ≠ w4.heap.size := by omega
    have HW0 := hid_of w0
    have HW := hid_of hW
    clear b4 va4 bW w0 hW HSm smx
    go_wp2_with fail
    rw [← HW.out]
    refine HS1.out.1.mono ?_
    rintro e w5 ⟨rfl, b5⟩
    have B5 := hid_of (FRow.bel BW.out b5 (Nat.le_refl _))
    have BB5 := hid_of (FRow.bel BBW.out b5 (Nat.le_refl _))
    obtain ⟨⟨d0, d1, d2, d3, d4⟩, _⟩ := box5 ((b5.block _ (lt_of HW0.out)).trans HW0.out)
    clear c0 c1 c2 c3 c4
    obtain ⟨_, ⟨c0, c1, c2, c3, c4⟩⟩ := HX.out w5 B5.out
    have HS2 := hid_of (HS1.out.2 w5 b5)
    clear b5 HS1
    go_wp2_with fail
    refine HS2.out.mono ?_
    rintro e w6 ⟨rfl, b6⟩
    have BB6 := hid_of (FRow.bel BB5.out b6 (Nat.le_refl _))
    clear b6 HS2 c0 c1 c2 c3 c4 d0 d1 d2 d3 d4 HX
    cases hdec : decS s with
    | none =>
      have HDN := hid_of hdec
      clear hdec
      go_wp2_with fail
      refine (HD2.out w6).mono ?_
      rintro e w7 hrt
      obtain ⟨ga, gn, gc, ga', gn', gc', ga'', gn'', gc'', rfl, va7, b7⟩ := rt_no HDN.out hrt
      clear hrt HD2
      have BB7 := hid_of (FRow.bel BB6.out b7 (Nat.le_refl _))
      obtain ⟨Z, hZ⟩ : ∃ Z, Z = mk [] := ⟨_, rfl⟩
      rw [← hZ] at va7 ⊢
      obtain ⟨W7, hW7⟩ : ∃ W, W = w7.alloc (.cells #[.int .i64 0, .string Z, .slice ga gn gc, .slice ga' gn' gc', .slice ga'' gn'' gc''] 26) := ⟨_, rfl⟩
      have bW7 : Below w7.heap.size w7 W7 := by rw [hW7]; exact FRow.bnew w7 _
      have HS7 := hid_of (RSame.rsame_call (va7.below bW7) (va_z W7) fit_z fit_z)
      rw [sm_self] at HS7
      have BW7 := hid_of (FRow.bel BB7.out bW7 (Nat.le_refl _))
      have HW7 := hid_of hW7
      clear b7 va7 bW7 hW7 hZ
      go_wp2_with fail
      rw [← HW7.out]
      refine HS7.out.mono ?_
      rintro e w8 ⟨rfl, b8⟩
      have BB8 := hid_of (FRow.bel BW7.out b8 (Nat.le_refl _))
      clear b8
      go_wp2_with fail
      go_ret
      exact ⟨rfl, BB8.out⟩
    | some q =>
      obtain ⟨y, m⟩ := q
      obtain ⟨q1, q2, q3, q4, q5⟩ := dec_some hdec
      have hval : ∃ r, valS s = some (y, r) := by
        unfold decS at hdec
        obtain ⟨⟨v', r⟩, g1, g2⟩ := Option.bind_eq_some_iff.1 hdec
        simp only at g2
        split at g2
        · injection g2 with g2; injection g2 with g3 g4; subst g3; exact ⟨r, g1⟩
        · cases g2
      obtain ⟨ry, hval⟩ := hval
      have wely := val_wel hval
      have HDN := hid_of hdec
      have ey : encV y = enc y := by unfold encV; rw [if_pos q1]
      have HEy := hid_of fun (W : World) (v' : Value) (hv : VA W v' y) => encode_call hv wely q2 (by have := HMS.out; omega)
      have HKy := hid_of fun (W : World) (v' : Value) (hv : VA W v' y) => Check.check_call hv wely
      rw [ey, q1, q4] at HEy
      rw [q1] at HKy
      have hcut := cut_to s m (m : Int) rfl q3
      have hml : (m : Int) ≤ (T.size : Int) := by have := HMS.out; omega
      have hee := str_eq (s.take m) (s.take m)
      rw [decide_eq_true rfl] at hee
      have HYT : Hid (mk s = T) := HTT
      rw [HYT.out] at hcut
      clear hdec hval q1 q2 q3 q4 q5 ey wely HYT
      generalize mk (s.take m) = U at *
      go_wp2_with fail
      refine (HD2.out w6).mono ?_
      rintro e w7 hrt
      obtain ⟨ga, gn, gc, ga', gn', gc', ga'', gn'', gc'', rfl, va7, b7⟩ := rt_some HDN.out hrt
      clear hrt HD2
      have BB7 := hid_of (FRow.bel BB6.out b7 (Nat.le_refl _))
      obtain ⟨W7, hW7⟩ : ∃ W, W = w7.alloc (.cells #[.int .i64 y.kind, .string (mk y.text), .slice ga gn gc, .slice ga' gn' gc', .slice ga'' gn'' gc''] 26) := ⟨_, rfl⟩
      have bW7 : Below w7.heap.size w7 W7 := by rw [hW7]; exact FRow.bnew w7 _
      have x7 : W7.heap[w7.heap.size]? = some (.cells #[.int .i64 y.kind, .string (mk y.text), .slice ga gn gc, .slice ga' gn' gc', .slice ga'' gn'' gc''] 26 (0, 0)) := by rw [hW7]; exact heap_alloc_new w7 _
      have HE7 := hid_of (HEy.out W7 _ (va7.below bW7))
      have BW7 := hid_of (FRow.bel BB7.out bW7 (Nat.le_refl _))
      have HV7 := hid_of (And.intro (va7.below bW7) x7)
      have HW7 := hid_of hW7
      clear b7 va7 bW7 hW7 x7 HEy
      go_wp2_with fail
      rw [← HW7.out]
      refine HE7.out.mono ?_
      rintro e w8 ⟨rfl, b8⟩
      have BB8 := hid_of (FRow.bel BW7.out b8 (Nat.le_refl _))
      have HK8 := hid_of (HKy.out w8 _ (HV7.out.1.below b8))
      obtain ⟨⟨c0, c1, c2, c3, c4⟩, _⟩ := box5 ((b8.block _ (lt_of HV7.out.2)).trans HV7.out.2)
      clear b8 HE7 HKy HV7
      go_wp2_with fail
      refine HK8.out.mono ?_
      rintro e w9 ⟨rfl, b9⟩
      have BB9 := hid_of (FRow.bel BB8.out b9 (Nat.le_refl _))
      clear b9 HK8 c0 c1 c2 c3 c4
      go_wp2_with fail
      go_ret
      exact ⟨rfl, BB9.out⟩
  · have hx0 : (chk x == 0) = false := by simpa using hx
    have hx1 : (chk x != 0) = true := by simpa using hx
    have ex : encV x = [] := by unfold encV; rw [if_neg hx]
    rw [ex]
    have hb2 : (mk s).size ≤ 4194304 := by rw [hms]; exact hs
    have HMS := hid_of hms
    clear hx ex hbig hs HD1 HSm hms
    generalize chk x = E at *
    generalize mk [] = S at *
    have HTT0 : Hid (mk s = mk s) := hid_of rfl
    obtain ⟨T, hT⟩ : ∃ T, T = mk s := ⟨_, rfl⟩
    rw [← hT] at HD2 hb2 HMS ⊢
    have HTT := hid_of hT.symm
    clear hT HTT0
    go_wp2_with fail
    refine (HK.out w1 BB1.out).mono ?_
    rintro e w2 ⟨rfl, b2⟩
    have B2 := hid_of (FRow.bel B1.out b2 (Nat.le_refl _))
    have BB2 := hid_of (FRow.bel BB1.out b2 (Nat.le_refl _))
    clear b2 HK
    go_wp2_with fail
    refine (HA.out w2).mono ?_
    rintro e w6 ⟨rfl, b3⟩
    have BB6 := hid_of (FRow.bel BB2.out b3 (Nat.le_refl _))
    clear b3 c0 c1 c2 c3 c4 HX
    cases hdec : decS s with
    | none =>
      have HDN := hid_of hdec
      clear hdec
      go_wp2_with fail
      refine (HD2.out w6).mono ?_
      rintro e w7 hrt
      obtain ⟨ga, gn, gc, ga', gn', gc', ga'', gn'', gc'', rfl, va7, b7⟩ := rt_no HDN.out hrt
      clear hrt HD2
      have BB7 := hid_of (FRow.bel BB6.out b7 (Nat.le_refl _))
      obtain ⟨Z, hZ⟩ : ∃ Z, Z = mk [] := ⟨_, rfl⟩
      rw [← hZ] at va7 ⊢
      obtain ⟨W7, hW7⟩ : ∃ W, W = w7.alloc (.cells #[.int .i64 0, .string Z, .slice ga gn gc, .slice ga' gn' gc', .slice ga'' gn'' gc''] 26) := ⟨_, rfl⟩
      have bW7 : Below w7.heap.size w7 W7 := by rw [hW7]; exact FRow.bnew w7 _
      have HS7 := hid_of (RSame.rsame_call (va7.below bW7) (va_z W7) fit_z fit_z)
      rw [sm_self] at HS7
      have BW7 := hid_of (FRow.bel BB7.out bW7 (Nat.le_refl _))
      have HW7 := hid_of hW7
      clear b7 va7 bW7 hW7 hZ
      go_wp2_with fail
      rw [← HW7.out]
      refine HS7.out.mono ?_
      rintro e w8 ⟨rfl, b8⟩
      have BB8 := hid_of (FRow.bel BW7.out b8 (Nat.le_refl _))
      clear b8
      go_wp2_with fail
      go_ret
      exact ⟨rfl, BB8.out⟩
    | some q =>
      obtain ⟨y, m⟩ := q
      obtain ⟨q1, q2, q3, q4, q5⟩ := dec_some hdec
      have hval : ∃ r, valS s = some (y, r) := by
        unfold decS at hdec
        obtain ⟨⟨v', r⟩, g1, g2⟩ := Option.bind_eq_some_iff.1 hdec
        simp only at g2
        split at g2
        · injection g2 with g2; injection g2 with g3 g4; subst g3; exact ⟨r, g1⟩
        · cases g2
      obtain ⟨ry, hval⟩ := hval
      have wely := val_wel hval
      have HDN := hid_of hdec
      have ey : encV y = enc y := by unfold encV; rw [if_pos q1]
      have HEy := hid_of fun (W : World) (v' : Value) (hv : VA W v' y) => encode_call hv wely q2 (by have := HMS.out; omega)
      have HKy := hid_of fun (W : World) (v' : Value) (hv : VA W v' y) => Check.check_call hv wely
      rw [ey, q1, q4] at HEy
      rw [q1] at HKy
      have hcut := cut_to s m (m : Int) rfl q3
      have hml : (m : Int) ≤ (T.size : Int) := by have := HMS.out; omega
      have hee := str_eq (s.take m) (s.take m)
      rw [decide_eq_true rfl] at hee
      have HYT : Hid (mk s = T) := HTT
      rw [HYT.out] at hcut
      clear hdec hval q1 q2 q3 q4 q5 ey wely HYT
      generalize mk (s.take m) = U at *
      go_wp2_with fail
      refine (HD2.out w6).mono ?_
      rintro e w7 hrt
      obtain ⟨ga, gn, gc, ga', gn', gc', ga'', gn'', gc'', rfl, va7, b7⟩ := rt_some HDN.out hrt
      clear hrt HD2
      have BB7 := hid_of (FRow.bel BB6.out b7 (Nat.le_refl _))
      obtain ⟨W7, hW7⟩ : ∃ W, W = w7.alloc (.cells #[.int .i64 y.kind, .string (mk y.text), .slice ga gn gc, .slice ga' gn' gc', .slice ga'' gn'' gc''] 26) := ⟨_, rfl⟩
      have bW7 : Below w7.heap.size w7 W7 := by rw [hW7]; exact FRow.bnew w7 _
      have x7 : W7.heap[w7.heap.size]? = some (.cells #[.int .i64 y.kind, .string (mk y.text), .slice ga gn gc, .slice ga' gn' gc', .slice ga'' gn'' gc''] 26 (0, 0)) := by rw [hW7]; exact heap_alloc_new w7 _
      have HE7 := hid_of (HEy.out W7 _ (va7.below bW7))
      have BW7 := hid_of (FRow.bel BB7.out bW7 (Nat.le_refl _))
      have HV7 := hid_of (And.intro (va7.below bW7) x7)
      have HW7 := hid_of hW7
      clear b7 va7 bW7 hW7 x7 HEy
      go_wp2_with fail
      rw [← HW7.out]
      refine HE7.out.mono ?_
      rintro e w8 ⟨rfl, b8⟩
      have BB8 := hid_of (FRow.bel BW7.out b8 (Nat.le_refl _))
      have HK8 := hid_of (HKy.out w8 _ (HV7.out.1.below b8))
      obtain ⟨⟨c0, c1, c2, c3, c4⟩, _⟩ := box5 ((b8.block _ (lt_of HV7.out.2)).trans HV7.out.2)
      clear b8 HE7 HKy HV7
      go_wp2_with fail
      refine HK8.out.mono ?_
      rintro e w9 ⟨rfl, b9⟩
      have BB9 := hid_of (FRow.bel BB8.out b9 (Nat.le_refl _))
      clear b9 HK8 c0 c1 c2 c3 c4
      go_wp2_with fail
      go_ret
      exact ⟨rfl, BB9.out⟩
end Go.Proofs.Ytdcnkdkhanmklaa.Back
