/- The law ValueApart. -/
import Derived.Test.YtdcnkdkhanmklaaAwake
import Derived.Test.YtdcnkdkhanmklaaSame
import Derived.Test.YtdcnkdkhanmklaaRSame
namespace Go.Proofs.Ytdcnkdkhanmklaa.Apart
open Go.RowKit Go.Maps
open Go.Proofs.Ytdcnkdkhanmklaa.SetMath
open Go.Proofs.Ytdcnkdkhanmklaa.BytesMath
open Go.Proofs.Ytdcnkdkhanmklaa.FixMath
open Go.Proofs.Ytdcnkdkhanmklaa.ValueMath
open Go.Proofs.Ytdcnkdkhanmklaa.Base
open Go.Proofs.Ytdcnkdkhanmklaa.Vals
open Go.Proofs.Ytdcnkdkhanmklaa.Check0
open Go.Proofs.Ytdcnkdkhanmklaa.Enc
open Go.Proofs.Ytdcnkdkhanmklaa.Dec
open Go.Proofs.Ytdcnkdkhanmklaa.Rdr (cut_to)
set_option linter.unusedVariables false
set_option linter.unusedSimpArgs false
structure Nc (x : Vl) : Prop where
  wel : Wel x
  sm : small x
  len : (enc x).length ≤ 70368744177664
theorem decV_none {s : Bs} (h : decS s = none) : decV s = (zV, 0, 132) := by unfold decV; rw [h]
theorem rt_none {s : Bs} (h : decS s = none) {W : World} {e : Ending} {w' : World} (hr : RT s W e w') : ∃ k t a n c a' n' c' a'' n'' c'', e = .returned (.tuple #[.agg #[.int .i64 k, .string t, .slice a n c, .slice a' n' c', .slice a'' n'' c''], .int .i64 0, .int .i64 132]) ∧ Below W.heap.size W w' := by
  obtain ⟨v, h1, h2, h3⟩ := hr
  rw [decV_none h] at h1 h2
  obtain ⟨k, t, a, n, c, a', n', c', a'', n'', c'', rfl⟩ := vn_shape h2
  exact ⟨k, t, a, n, c, a', n', c', a'', n'', c'', h1, h3⟩
theorem pre_ne {a b : Vl} (ha : chk a = 0) (hb : chk b = 0) (na : Nc a) (nb : Nc b) (hne : a ≠ b) (hl : (enc a).length ≤ (enc b).length) : ((enc b).take (enc a).length == enc a) = false := by
  cases e : ((enc b).take (enc a).length == enc a) with
  | false => rfl
  | true =>
    have h1 : (enc b).take (enc a).length = enc a := eq_of_beq e
    have h2 : enc b = enc a ++ (enc b).drop (enc a).length := by
      conv => lhs; rw [← List.take_append_drop (enc a).length (enc b), h1]
    exact absurd (enc_begin ha hb na.sm nb.sm h2).1 hne
theorem sm_enc {a b : Vl} (ha : chk a = 0) (hb : chk b = 0) (na : Nc a) (nb : Nc b) : (enc a == enc b) = sm a b := by
  rw [Bool.eq_iff_iff, sm_iff, beq_iff_eq]
  exact ⟨enc_inj ha hb na.sm nb.sm, fun h => by rw [h]⟩

set_option maxHeartbeats 4000000 in
set_option maxRecDepth 100000 in
theorem apart_pos {w : World} {u v : Value} {x y : Vl} (n : Int) (hn : ¬ n < 0) (hn2 : n ≤ 9223372036854775807) (h : VA w u x) (h' : VA w v y) (nx : Nc x) (ny : Nc y) :
    Calls Try.prog 8 #[u, v, .int .i64 n] w fun e w' => e = .returned (.bool true) ∧ Below w.heap.size w w' := by
  have HE := hid_of fun (W : World) (hW : Below w.heap.size w W) => encode_call (h.below hW) nx.wel nx.sm (Nat.le_trans nx.len (by decide))
  have HE' := hid_of fun (W : World) (hW : Below w.heap.size w W) => encode_call (h'.below hW) ny.wel ny.sm (Nat.le_trans ny.len (by decide))
  have HS := hid_of fun (W : World) (hW : Below w.heap.size w W) => Same.same_call (h.below hW) (h'.below hW) nx.wel.toFit ny.wel.toFit
  have HA := hid_of fun W => Awake.awake_call W
  obtain ⟨a, b, c, rfl, h1, h2, h3⟩ := h
  obtain ⟨a', b', c', rfl, k1, k2, k3⟩ := h'
  obtain ⟨la, lc, rfl, _, _⟩ := id h1
  obtain ⟨fa, fc, rfl, _, _⟩ := id h2
  obtain ⟨ea, ec, rfl, _, _⟩ := id h3
  obtain ⟨la', lc', rfl, _, _⟩ := id k1
  obtain ⟨fa', fc', rfl, _, _⟩ := id k2
  obtain ⟨ea', ec', rfl, _, _⟩ := id k3
  clear h1 h2 h3 k1 k2 k3
  have NX := hid_of nx
  have NY := hid_of ny
  clear nx ny
  generalize x.list.length = n1 at *
  generalize List.length x.fields = n2 at *
  generalize List.length x.ranked = n3 at *
  generalize y.list.length = m1 at *
  generalize List.length y.fields = m2 at *
  generalize List.length y.ranked = m3 at *
  generalize mk x.text = X at *
  generalize mk y.text = Y at *
  obtain ⟨V, hV⟩ : ∃ V, V = (w.alloc (.cells #[.int .i64 x.kind, .string X, .slice la n1 lc, .slice fa n2 fc, .slice ea n3 ec] 26)).alloc (.cells #[.int .i64 y.kind, .string Y, .slice la' m1 lc', .slice fa' m2 fc', .slice ea' m3 ec'] 26) := ⟨_, rfl⟩
  have bV : Below w.heap.size w V := by rw [hV]; exact FRow.bel (FRow.bnew w _) (FRow.bnew _ _) (Nat.le_refl _)
  have v0 : V.heap[w.heap.size]? = some (.cells #[.int .i64 x.kind, .string X, .slice la n1 lc, .slice fa n2 fc, .slice ea n3 ec] 26 (0, 0)) := by rw [hV, Lib.alloc_old _ _ _ (by simp)]; exact heap_alloc_new w _
  have v1 : V.heap[w.heap.size + 1]? = some (.cells #[.int .i64 y.kind, .string Y, .slice la' m1 lc', .slice fa' m2 fc', .slice ea' m3 ec'] 26 (0, 0)) := by
    rw [hV]
    have := heap_alloc_new (w.alloc (.cells #[.int .i64 x.kind, .string X, .slice la n1 lc, .slice fa n2 fc, .slice ea n3 ec] 26)) (.cells #[.int .i64 y.kind, .string Y, .slice la' m1 lc', .slice fa' m2 fc', .slice ea' m3 ec'] 26)
    simpa using this
  have HV := hid_of hV
  have HX := hid_of fun (W : World) (hW : Below V.heap.size V W) => And.intro (FRow.bel bV hW (Nat.le_refl _)) (And.intro (box5 ((hW.block _ (lt_of v0)).trans v0)).1 (box5 ((hW.block _ (lt_of v1)).trans v1)).1)
  have HB := hid_of bV
  clear v0 v1 bV hV
  generalize x.kind = xk at *
  generalize y.kind = yk at *
  go_enter Try.func8, Try.ntmps8
  go_wp2_with fail
  rw [← HV.out]
  refine (HE.out V HB.out).mono ?_
  rintro e w1 ⟨rfl, b1⟩
  obtain ⟨bb1, _, ⟨d0, d1, d2, d3, d4⟩⟩ := HX.out w1 b1
  have B1 := hid_of b1
  have BB1 := hid_of bb1
  clear b1 bb1 HE
  go_wp2_with fail
  refine (HE'.out w1 BB1.out).mono ?_
  rintro e w2 ⟨rfl, b2⟩
  have B2 := hid_of (FRow.bel B1.out b2 (Nat.le_refl _))
  clear b2 HE' d0 d1 d2 d3 d4
  obtain ⟨bb2, ⟨c0, c1, c2, c3, c4⟩, ⟨d0, d1, d2, d3, d4⟩⟩ := HX.out w2 B2.out
  have BB2 := hid_of bb2
  clear bb2
  by_cases hx : chk x = 0
  · by_cases hy : chk y = 0
    · have ex : encV x = enc x := by unfold encV; rw [if_pos hx]
      have ey : encV y = enc y := by unfold encV; rw [if_pos hy]
      rw [ex, hx, ey, hy]
      have hse := sm_enc hx hy NX.out NY.out
      have p1 := enc_pos x
      have p2 := enc_pos y
      have t1 : (mk (enc x)).toList.isEmpty = false := by rw [mk_list]; cases hh : enc x with | nil => rw [hh] at p1; simp at p1 | cons => rfl
      have t2 : (mk (enc y)).toList.isEmpty = false := by rw [mk_list]; cases hh : enc y with | nil => rw [hh] at p2; simp at p2 | cons => rfl
      have t3 : ((mk (enc x)).toList == (mk (enc y)).toList) = sm x y := by rw [mk_list, mk_list]; exact hse
      have sx := mk_size (enc x)
      have sy := mk_size (enc y)
      have lx := NX.out.len
      have ly := NY.out.len
      have HN1 : Hid (sm x y = false → (enc x).length ≤ (enc y).length → ((enc y).take (enc x).length == enc x) = false) := hid_of fun e hl => pre_ne hx hy NX.out NY.out (fun q => by rw [q, sm_self] at e; cases e) hl
      have HN2 : Hid (sm x y = false → (enc y).length ≤ (enc x).length → ((enc x).take (enc y).length == enc y) = false) := hid_of fun e hl => pre_ne hy hx NY.out NX.out (fun q => by rw [q, sm_self] at e; cases e) hl
      have HD : Hid (∀ m : Nat, m < (enc x).length → decS ((enc x).take m) = none) := hid_of fun m hm => dec_cut hx NX.out.sm m hm
      clear hx hy hse ex ey
      generalize enc x = ex at *
      generalize enc y = ey at *
      have cutS := fun (m : Nat) (hm : m ≤ ex.length) => cut_to ex m (m : Int) rfl hm
      have cutT := fun (m : Nat) (hm : m ≤ ey.length) => cut_to ey m (m : Int) rfl hm
      have HSS := hid_of (HS.out w2 BB2.out)
      clear HS HX
      rw [← sx] at p1 lx cutS HD
      rw [← sy] at p2 ly cutT
      rw [← sx, ← sy] at HN1 HN2
      obtain ⟨m, hm, hm2⟩ : ∃ m : Nat, n % ((mk ex).size : Int) = (m : Int) ∧ m < (mk ex).size := ⟨(n % ((mk ex).size : Int)).toNat, by have := Int.emod_nonneg n (show ((mk ex).size : Int) ≠ 0 by omega); omega, by have := Int.emod_nonneg n (show ((mk ex).size : Int) ≠ 0 by omega); have := Int.emod_lt_of_pos n (show (0 : Int) < ((mk ex).size : Int) by omega); omega⟩
      have hcut := cut_to ex m (n % ((mk ex).size : Int)) hm (by rw [← sx]; omega)
      have HDN := hid_of (HD.out m hm2)
      have HDD := hid_of fun W => decode_call (ex.take m) W (by rw [List.length_take]; omega)
      have HMM := hid_of hm
      clear hm HD hm2 sx
      generalize mk (ex.take m) = Z at *
      cases hd : sm x y
      · rw [hd] at t3 HSS
        have HM1 := hid_of (HN1.out hd)
        have HM2 := hid_of (HN2.out hd)
        clear HN1 HN2
        by_cases hle : (mk ex).size ≤ (mk ey).size
        · have u1 := cutT (mk ex).size hle
          have u2 : ((mk (ey.take (mk ex).size)).toList == (mk ex).toList) = false := by rw [mk_list, mk_list]; exact HM1.out hle
          have z1 : ((mk ex).size : Int) ≤ ((mk ey).size : Int) := by omega
          have z2 : ¬ ((mk ey).size : Int) < ((mk ex).size : Int) := by omega
          clear HM1 HM2 sy cutT cutS
          generalize mk (ey.take (mk ex).size) = U at *
          generalize mk ey = T at *
          go_wp2_with fail
          refine HSS.out.mono ?_
          rintro e w3 ⟨rfl, b3⟩
          have BB3 := hid_of (FRow.bel BB2.out b3 (Nat.le_refl _))
          clear b3 HSS c0 c1 c2 c3 c4 d0 d1 d2 d3 d4
          go_wp2_with fail
          refine (HDD.out w3).mono ?_
          rintro e w4 hrt
          obtain ⟨k, t, a, nn, c, a', n', c', a'', n'', c'', rfl, b4⟩ := rt_none HDN.out hrt
          have BB4 := hid_of (FRow.bel BB3.out b4 (Nat.le_refl _))
          clear b4 hrt HDD
          go_wp2_with fail
          refine (HA.out _).mono ?_
          rintro e w5 ⟨rfl, b5⟩
          have BB5 := hid_of (FRow.bel (BB4.out.alloc BB4.out.size _) b5 (Nat.le_refl _))
          clear b5
          go_wp2_with fail
          go_ret
          exact ⟨rfl, BB5.out⟩
          
        · have u1 := cutS (mk ey).size (by omega)
          have u2 : ((mk (ex.take (mk ey).size)).toList == (mk ey).toList) = false := by rw [mk_list, mk_list]; exact HM2.out (by omega)
          have z1 : ¬ ((mk ex).size : Int) ≤ ((mk ey).size : Int) := by omega
          have z2 : ((mk ey).size : Int) < ((mk ex).size : Int) := by omega
          clear HM1 HM2 sy cutT cutS
          generalize mk (ex.take (mk ey).size) = U at *
          generalize mk ey = T at *
          go_wp2_with fail
          refine HSS.out.mono ?_
          rintro e w3 ⟨rfl, b3⟩
          have BB3 := hid_of (FRow.bel BB2.out b3 (Nat.le_refl _))
          clear b3 HSS c0 c1 c2 c3 c4 d0 d1 d2 d3 d4
          go_wp2_with fail
          refine (HDD.out w3).mono ?_
          rintro e w4 hrt
          obtain ⟨k, t, a, nn, c, a', n', c', a'', n'', c'', rfl, b4⟩ := rt_none HDN.out hrt
          have BB4 := hid_of (FRow.bel BB3.out b4 (Nat.le_refl _))
          clear b4 hrt HDD
          go_wp2_with fail
          refine (HA.out _).mono ?_
          rintro e w5 ⟨rfl, b5⟩
          have BB5 := hid_of (FRow.bel (BB4.out.alloc BB4.out.size _) b5 (Nat.le_refl _))
          clear b5
          go_wp2_with fail
          go_ret
          exact ⟨rfl, BB5.out⟩
          
      · rw [hd] at t3 HSS
        clear HN1 HN2 sy cutT cutS
        generalize mk ey = T at *
        go_wp2_with fail
        refine HSS.out.mono ?_
        rintro e w3 ⟨rfl, b3⟩
        have BB3 := hid_of (FRow.bel BB2.out b3 (Nat.le_refl _))
        clear b3 HSS c0 c1 c2 c3 c4 d0 d1 d2 d3 d4
        go_wp2_with fail
        refine (HDD.out w3).mono ?_
        rintro e w4 hrt
        obtain ⟨k, t, a, nn, c, a', n', c', a'', n'', c'', rfl, b4⟩ := rt_none HDN.out hrt
        have BB4 := hid_of (FRow.bel BB3.out b4 (Nat.le_refl _))
        clear b4 hrt HDD
        go_wp2_with fail
        refine (HA.out _).mono ?_
        rintro e w5 ⟨rfl, b5⟩
        have BB5 := hid_of (FRow.bel (BB4.out.alloc BB4.out.size _) b5 (Nat.le_refl _))
        clear b5
        go_wp2_with fail
        go_ret
        exact ⟨rfl, BB5.out⟩
        
    · have e0 : (chk y != 0) = true := by simpa using hy
      rw [hx]
      clear hx hy
      generalize chk y = E at *
      generalize mk (encV x) = S at *
      generalize mk (encV y) = T at *
      go_wp2_with fail
      refine (HA.out w2).mono ?_
      rintro e w3 ⟨rfl, b3⟩
      have BB3 := hid_of (FRow.bel BB2.out b3 (Nat.le_refl _))
      clear b3
      go_wp2_with fail
      go_ret
      exact ⟨rfl, BB3.out⟩
  · have e0 : (chk x != 0) = true := by simpa using hx
    clear hx
    generalize chk x = E at *
    generalize chk y = E' at *
    generalize mk (encV x) = S at *
    generalize mk (encV y) = T at *
    go_wp2_with fail
    refine (HA.out w2).mono ?_
    rintro e w3 ⟨rfl, b3⟩
    have BB3 := hid_of (FRow.bel BB2.out b3 (Nat.le_refl _))
    clear b3
    go_wp2_with fail
    go_ret
    exact ⟨rfl, BB3.out⟩

set_option maxHeartbeats 4000000 in
set_option maxRecDepth 100000 in
theorem apart_neg {w : World} {u v : Value} {x y : Vl} (n : Int) (hn : n < 0) (h : VA w u x) (h' : VA w v y) (nx : Nc x) (ny : Nc y) :
    Calls Try.prog 8 #[u, v, .int .i64 n] w fun e w' => e = .returned (.bool true) ∧ Below w.heap.size w w' := by
  have HE := hid_of fun (W : World) (hW : Below w.heap.size w W) => encode_call (h.below hW) nx.wel nx.sm (Nat.le_trans nx.len (by decide))
  have HE' := hid_of fun (W : World) (hW : Below w.heap.size w W) => encode_call (h'.below hW) ny.wel ny.sm (Nat.le_trans ny.len (by decide))
  have HS := hid_of fun (W : World) (hW : Below w.heap.size w W) => Same.same_call (h.below hW) (h'.below hW) nx.wel.toFit ny.wel.toFit
  have HA := hid_of fun W => Awake.awake_call W
  obtain ⟨a, b, c, rfl, h1, h2, h3⟩ := h
  obtain ⟨a', b', c', rfl, k1, k2, k3⟩ := h'
  obtain ⟨la, lc, rfl, _, _⟩ := id h1
  obtain ⟨fa, fc, rfl, _, _⟩ := id h2
  obtain ⟨ea, ec, rfl, _, _⟩ := id h3
  obtain ⟨la', lc', rfl, _, _⟩ := id k1
  obtain ⟨fa', fc', rfl, _, _⟩ := id k2
  obtain ⟨ea', ec', rfl, _, _⟩ := id k3
  clear h1 h2 h3 k1 k2 k3
  have NX := hid_of nx
  have NY := hid_of ny
  clear nx ny
  generalize x.list.length = n1 at *
  generalize List.length x.fields = n2 at *
  generalize List.length x.ranked = n3 at *
  generalize y.list.length = m1 at *
  generalize List.length y.fields = m2 at *
  generalize List.length y.ranked = m3 at *
  generalize mk x.text = X at *
  generalize mk y.text = Y at *
  obtain ⟨V, hV⟩ : ∃ V, V = (w.alloc (.cells #[.int .i64 x.kind, .string X, .slice la n1 lc, .slice fa n2 fc, .slice ea n3 ec] 26)).alloc (.cells #[.int .i64 y.kind, .string Y, .slice la' m1 lc', .slice fa' m2 fc', .slice ea' m3 ec'] 26) := ⟨_, rfl⟩
  have bV : Below w.heap.size w V := by rw [hV]; exact FRow.bel (FRow.bnew w _) (FRow.bnew _ _) (Nat.le_refl _)
  have v0 : V.heap[w.heap.size]? = some (.cells #[.int .i64 x.kind, .string X, .slice la n1 lc, .slice fa n2 fc, .slice ea n3 ec] 26 (0, 0)) := by rw [hV, Lib.alloc_old _ _ _ (by simp)]; exact heap_alloc_new w _
  have v1 : V.heap[w.heap.size + 1]? = some (.cells #[.int .i64 y.kind, .string Y, .slice la' m1 lc', .slice fa' m2 fc', .slice ea' m3 ec'] 26 (0, 0)) := by
    rw [hV]
    have := heap_alloc_new (w.alloc (.cells #[.int .i64 x.kind, .string X, .slice la n1 lc, .slice fa n2 fc, .slice ea n3 ec] 26)) (.cells #[.int .i64 y.kind, .string Y, .slice la' m1 lc', .slice fa' m2 fc', .slice ea' m3 ec'] 26)
    simpa using this
  have HV := hid_of hV
  have HX := hid_of fun (W : World) (hW : Below V.heap.size V W) => And.intro (FRow.bel bV hW (Nat.le_refl _)) (And.intro (box5 ((hW.block _ (lt_of v0)).trans v0)).1 (box5 ((hW.block _ (lt_of v1)).trans v1)).1)
  have HB := hid_of bV
  clear v0 v1 bV hV
  generalize x.kind = xk at *
  generalize y.kind = yk at *
  go_enter Try.func8, Try.ntmps8
  go_wp2_with fail
  rw [← HV.out]
  refine (HE.out V HB.out).mono ?_
  rintro e w1 ⟨rfl, b1⟩
  obtain ⟨bb1, _, ⟨d0, d1, d2, d3, d4⟩⟩ := HX.out w1 b1
  have B1 := hid_of b1
  have BB1 := hid_of bb1
  clear b1 bb1 HE
  go_wp2_with fail
  refine (HE'.out w1 BB1.out).mono ?_
  rintro e w2 ⟨rfl, b2⟩
  have B2 := hid_of (FRow.bel B1.out b2 (Nat.le_refl _))
  clear b2 HE' d0 d1 d2 d3 d4
  obtain ⟨bb2, ⟨c0, c1, c2, c3, c4⟩, ⟨d0, d1, d2, d3, d4⟩⟩ := HX.out w2 B2.out
  have BB2 := hid_of bb2
  clear bb2
  by_cases hx : chk x = 0
  · by_cases hy : chk y = 0
    · have ex : encV x = enc x := by unfold encV; rw [if_pos hx]
      have ey : encV y = enc y := by unfold encV; rw [if_pos hy]
      rw [ex, hx, ey, hy]
      have hse := sm_enc hx hy NX.out NY.out
      have p1 := enc_pos x
      have p2 := enc_pos y
      have t1 : (mk (enc x)).toList.isEmpty = false := by rw [mk_list]; cases hh : enc x with | nil => rw [hh] at p1; simp at p1 | cons => rfl
      have t2 : (mk (enc y)).toList.isEmpty = false := by rw [mk_list]; cases hh : enc y with | nil => rw [hh] at p2; simp at p2 | cons => rfl
      have t3 : ((mk (enc x)).toList == (mk (enc y)).toList) = sm x y := by rw [mk_list, mk_list]; exact hse
      have sx := mk_size (enc x)
      have sy := mk_size (enc y)
      have lx := NX.out.len
      have ly := NY.out.len
      have HN1 : Hid (sm x y = false → (enc x).length ≤ (enc y).length → ((enc y).take (enc x).length == enc x) = false) := hid_of fun e hl => pre_ne hx hy NX.out NY.out (fun q => by rw [q, sm_self] at e; cases e) hl
      have HN2 : Hid (sm x y = false → (enc y).length ≤ (enc x).length → ((enc x).take (enc y).length == enc y) = false) := hid_of fun e hl => pre_ne hy hx NY.out NX.out (fun q => by rw [q, sm_self] at e; cases e) hl
      have HD : Hid (∀ m : Nat, m < (enc x).length → decS ((enc x).take m) = none) := hid_of fun m hm => dec_cut hx NX.out.sm m hm
      clear hx hy hse ex ey
      generalize enc x = ex at *
      generalize enc y = ey at *
      have cutS := fun (m : Nat) (hm : m ≤ ex.length) => cut_to ex m (m : Int) rfl hm
      have cutT := fun (m : Nat) (hm : m ≤ ey.length) => cut_to ey m (m : Int) rfl hm
      have HSS := hid_of (HS.out w2 BB2.out)
      clear HS HX
      rw [← sx] at p1 lx cutS HD
      rw [← sy] at p2 ly cutT
      rw [← sx, ← sy] at HN1 HN2
      obtain ⟨m, hm, hm2⟩ : ∃ m : Nat, (0 : Int) = (m : Int) ∧ m < (mk ex).size := ⟨0, rfl, p1⟩
      have hcut := cut_to ex m 0 hm (by rw [← sx]; omega)
      have HDN := hid_of (HD.out m hm2)
      have HDD := hid_of fun W => decode_call (ex.take m) W (by rw [List.length_take]; omega)
      have HMM := hid_of hm
      clear hm HD hm2 sx
      generalize mk (ex.take m) = Z at *
      cases hd : sm x y
      · rw [hd] at t3 HSS
        have HM1 := hid_of (HN1.out hd)
        have HM2 := hid_of (HN2.out hd)
        clear HN1 HN2
        by_cases hle : (mk ex).size ≤ (mk ey).size
        · have u1 := cutT (mk ex).size hle
          have u2 : ((mk (ey.take (mk ex).size)).toList == (mk ex).toList) = false := by rw [mk_list, mk_list]; exact HM1.out hle
          have z1 : ((mk ex).size : Int) ≤ ((mk ey).size : Int) := by omega
          have z2 : ¬ ((mk ey).size : Int) < ((mk ex).size : Int) := by omega
          clear HM1 HM2 sy cutT cutS
          generalize mk (ey.take (mk ex).size) = U at *
          generalize mk ey = T at *
          go_wp2_with fail
          refine HSS.out.mono ?_
          rintro e w3 ⟨rfl, b3⟩
          have BB3 := hid_of (FRow.bel BB2.out b3 (Nat.le_refl _))
          clear b3 HSS c0 c1 c2 c3 c4 d0 d1 d2 d3 d4
          go_wp2_with fail
          refine (HDD.out w3).mono ?_
          rintro e w4 hrt
          obtain ⟨k, t, a, nn, c, a', n', c', a'', n'', c'', rfl, b4⟩ := rt_none HDN.out hrt
          have BB4 := hid_of (FRow.bel BB3.out b4 (Nat.le_refl _))
          clear b4 hrt HDD
          go_wp2_with fail
          refine (HA.out _).mono ?_
          rintro e w5 ⟨rfl, b5⟩
          have BB5 := hid_of (FRow.bel (BB4.out.alloc BB4.out.size _) b5 (Nat.le_refl _))
          clear b5
          go_wp2_with fail
          go_ret
          exact ⟨rfl, BB5.out⟩
          
        · have u1 := cutS (mk ey).size (by omega)
          have u2 : ((mk (ex.take (mk ey).size)).toList == (mk ey).toList) = false := by rw [mk_list, mk_list]; exact HM2.out (by omega)
          have z1 : ¬ ((mk ex).size : Int) ≤ ((mk ey).size : Int) := by omega
          have z2 : ((mk ey).size : Int) < ((mk ex).size : Int) := by omega
          clear HM1 HM2 sy cutT cutS
          generalize mk (ex.take (mk ey).size) = U at *
          generalize mk ey = T at *
          go_wp2_with fail
          refine HSS.out.mono ?_
          rintro e w3 ⟨rfl, b3⟩
          have BB3 := hid_of (FRow.bel BB2.out b3 (Nat.le_refl _))
          clear b3 HSS c0 c1 c2 c3 c4 d0 d1 d2 d3 d4
          go_wp2_with fail
          refine (HDD.out w3).mono ?_
          rintro e w4 hrt
          obtain ⟨k, t, a, nn, c, a', n', c', a'', n'', c'', rfl, b4⟩ := rt_none HDN.out hrt
          have BB4 := hid_of (FRow.bel BB3.out b4 (Nat.le_refl _))
          clear b4 hrt HDD
          go_wp2_with fail
          refine (HA.out _).mono ?_
          rintro e w5 ⟨rfl, b5⟩
          have BB5 := hid_of (FRow.bel (BB4.out.alloc BB4.out.size _) b5 (Nat.le_refl _))
          clear b5
          go_wp2_with fail
          go_ret
          exact ⟨rfl, BB5.out⟩
          
      · rw [hd] at t3 HSS
        clear HN1 HN2 sy cutT cutS
        generalize mk ey = T at *
        go_wp2_with fail
        refine HSS.out.mono ?_
        rintro e w3 ⟨rfl, b3⟩
        have BB3 := hid_of (FRow.bel BB2.out b3 (Nat.le_refl _))
        clear b3 HSS c0 c1 c2 c3 c4 d0 d1 d2 d3 d4
        go_wp2_with fail
        refine (HDD.out w3).mono ?_
        rintro e w4 hrt
        obtain ⟨k, t, a, nn, c, a', n', c', a'', n'', c'', rfl, b4⟩ := rt_none HDN.out hrt
        have BB4 := hid_of (FRow.bel BB3.out b4 (Nat.le_refl _))
        clear b4 hrt HDD
        go_wp2_with fail
        refine (HA.out _).mono ?_
        rintro e w5 ⟨rfl, b5⟩
        have BB5 := hid_of (FRow.bel (BB4.out.alloc BB4.out.size _) b5 (Nat.le_refl _))
        clear b5
        go_wp2_with fail
        go_ret
        exact ⟨rfl, BB5.out⟩
        
    · have e0 : (chk y != 0) = true := by simpa using hy
      rw [hx]
      clear hx hy
      generalize chk y = E at *
      generalize mk (encV x) = S at *
      generalize mk (encV y) = T at *
      go_wp2_with fail
      refine (HA.out w2).mono ?_
      rintro e w3 ⟨rfl, b3⟩
      have BB3 := hid_of (FRow.bel BB2.out b3 (Nat.le_refl _))
      clear b3
      go_wp2_with fail
      go_ret
      exact ⟨rfl, BB3.out⟩
  · have e0 : (chk x != 0) = true := by simpa using hx
    clear hx
    generalize chk x = E at *
    generalize chk y = E' at *
    generalize mk (encV x) = S at *
    generalize mk (encV y) = T at *
    go_wp2_with fail
    refine (HA.out w2).mono ?_
    rintro e w3 ⟨rfl, b3⟩
    have BB3 := hid_of (FRow.bel BB2.out b3 (Nat.le_refl _))
    clear b3
    go_wp2_with fail
    go_ret
    exact ⟨rfl, BB3.out⟩
theorem apart_call {w : World} {u v : Value} {x y : Vl} (n : Int) (hn2 : n ≤ 9223372036854775807) (h : VA w u x) (h' : VA w v y) (nx : Nc x) (ny : Nc y) :
    Calls Try.prog 8 #[u, v, .int .i64 n] w fun e w' => e = .returned (.bool true) ∧ Below w.heap.size w w' := by
  by_cases hn : n < 0
  · exact apart_neg n hn h h' nx ny
  · exact apart_pos n hn hn2 h h' nx ny
end Go.Proofs.Ytdcnkdkhanmklaa.Apart
