/- The law DiskLasts. -/
import Derived.Test.YtilbffbmpgebmaaLastsR
namespace Go.Proofs.Ytilbffbmpgebmaa.Lasts
open Go.RowKit Go.Maps Go.Sort
open Go.Proofs.Ytilbffbmpgebmaa.DiskMath
open Go.Proofs.Ytilbffbmpgebmaa.RefMath
open Go.Proofs.Ytilbffbmpgebmaa.Base
open Go.Proofs.Ytilbffbmpgebmaa.Small
open Go.Proofs.Ytilbffbmpgebmaa.File
open Go.Proofs.Ytilbffbmpgebmaa.File2
open Go.Proofs.Ytilbffbmpgebmaa.Append
open Go.Proofs.Ytilbffbmpgebmaa.Step
open Go.Proofs.Ytilbffbmpgebmaa.Crash
open Go.Proofs.Ytilbffbmpgebmaa.Crash2
open Go.Proofs.Ytilbffbmpgebmaa.Plan
open Go.Proofs.Ytilbffbmpgebmaa.Plan2
open Go.Proofs.Ytilbffbmpgebmaa.None
open Go.Proofs.Ytilbffbmpgebmaa.None2
open Go.Proofs.Ytilbffbmpgebmaa.RefChange
open Go.Proofs.Ytilbffbmpgebmaa.RefTexts
open Go.Proofs.Ytilbffbmpgebmaa.Pair
open Go.Proofs.Ytilbffbmpgebmaa.Like
open Go.Proofs.Ytilbffbmpgebmaa.Deeds
open Go.Proofs.Ytilbffbmpgebmaa.LastsM
open Go.Proofs.Ytilbffbmpgebmaa.LastsM2
open Go.Proofs.Ytilbffbmpgebmaa.Play
open Go.Proofs.Ytilbffbmpgebmaa.LastsR
set_option linter.unusedVariables false
set_option linter.unusedSimpArgs false

theorem has_ok {base b : Nat} {d : Dk} {w : World} (h : Has base b d w) : Ok d := by
  obtain ⟨y, h⟩ := h
  exact h.ok
theorem has_hb {base b : Nat} {d : Dk} {w : World} (h : Has base b d w) : base ≤ w.heap.size := by
  obtain ⟨y, h⟩ := h
  exact h.hb
theorem crash_has (base b : Nat) (d : Dk) (w : World) (h : Has base b d w) (cn : Int) (a0 : Option Addr) (n0 c0 : Nat) (bytes : List Int) (hst : d.steps < 1099511627776) (hbl : bytes.length ≤ 9223372036854775807) (hB : ∀ W, Ev DT base w W → IntSl W (.slice a0 n0 c0) bytes) :
    Calls Try.prog 13 #[ptr b, .agg #[.int .i64 cn, .slice a0 n0 c0]] w fun e w' => e = .returned (.tuple #[]) ∧ Has base b (d.crash cn bytes) w' ∧ Ev DT base w w' := by
  obtain ⟨y, h⟩ := h
  exact crash_call base b y d w h cn a0 n0 c0 bytes hst hbl hB
theorem int_nil (W : World) : IntSl W (.slice none 0 0) [] := ⟨none, 0, rfl, Or.inl rfl⟩
/- the names of a disk whose names are NN -/
theorem names_row (base b : Nat) (d : Dk) (NN : NL) (w : World) (h : Has base b d w) (hd : d.down = false) (hN : d.names = NN) (h40 : d.steps < 1099511627776) :
    Calls Try.prog 14 #[ptr b] w fun e w' => ∃ (g cap : Nat), e = .returned (.slice (some ⟨g, 0, none⟩) NN.length cap) ∧ w'.ownsRow w.heap.size 9 1 (.slice (some ⟨g, 0, none⟩) NN.length cap) NN.length ((keys NN).map encStr) ∧ Below w.heap.size w w' := by
  obtain ⟨y, h⟩ := h
  subst hN
  exact names_call base b y d w h hd h40
theorem names_sr (base b : Nat) (d : Dk) (NN : NL) (w : World) (h : Has base b d w) (hd : d.down = false) (hN : d.names = NN) (h40 : d.steps < 1099511627776) :
    Calls Try.prog 14 #[ptr b] w fun e w' => ∃ v, e = .returned v ∧ SR w' v (keys NN) ∧ Below w.heap.size w w' := by
  have h1 := names_any base b d w h h40
  have e : told d false = keys NN := by unfold told listOf; rw [hd, ← hN]; rfl
  rw [e] at h1
  exact h1
theorem lasting_sr (base b : Nat) (d : Dk) (NN : NL) (w : World) (h : Has base b d w) (hd : d.down = false) (hN : d.last = NN) (h40 : d.steps < 1099511627776) :
    Calls Try.prog 20 #[ptr b] w fun e w' => ∃ v, e = .returned v ∧ SR w' v (keys NN) ∧ Below w.heap.size w w' := by
  have h1 := lasting_any base b d w h h40
  have e : told d true = keys NN := by unfold told listOf; rw [hd, ← hN]; rfl
  rw [e] at h1
  exact h1
theorem key_at (NN : NL) (i : Nat) (h : i < (keys NN).length) : (keys NN)[i] = (NN[i]'(by rw [keys_len] at h; exact h)).1 := by simp [keys]
theorem read_at {base b : Nat} {d : Dk} {NN : NL} {wh ss : List Bs} {w : World} (h : Has base b d w) (ls : Ls d NN wh ss) (i : Nat) (hi : i < NN.length) (hw : i < wh.length) (s : ByteArray) (hs : s = mk (NN[i]).1) :
    Calls Try.prog 15 #[ptr b, .string s] w fun e w' => e = .returned (.tuple #[.string (mk (wh[i])), .int .i64 0]) ∧ Below w.heap.size w w' := by
  have h1 := read_has base b d s w h (by rw [hs, mk_size]; have := (has_ok h).names.len; rw [ls.names] at this; exact this _ (List.getElem_mem hi))
  rw [hs, bs_mk, ls.read i hi] at h1
  rw [hs]
  exact h1
theorem synced_at {base b : Nat} {d : Dk} {NN : NL} {wh ss : List Bs} {w : World} (h : Has base b d w) (ls : Ls d NN wh ss) (i : Nat) (hi : i < NN.length) (hw : i < ss.length) (s : ByteArray) (hs : s = mk (NN[i]).1) :
    Calls Try.prog 16 #[ptr b, .string s] w fun e w' => e = .returned (.tuple #[.int .i64 ((ss[i]).length : Int), .int .i64 0]) ∧ Below w.heap.size w w' := by
  have h1 := synced_has base b d s w h (by rw [hs, mk_size]; have := (has_ok h).names.len; rw [ls.names] at this; exact this _ (List.getElem_mem hi))
  rw [hs, bs_mk, ls.synced i hi] at h1
  rw [hs]
  exact h1
theorem append_at {base b : Nat} {d : Dk} {NN : NL} {wh ss : List Bs} {w : World} {m T : Nat} (h : Has base b d w) (ls : Ls d NN wh ss) (iv : Iv d m T) (i : Nat) (hi : i < NN.length) (hw : i < wh.length) (s : ByteArray) (hs : s = mk (NN[i]).1) (t : ByteArray) (ht : t.size ≤ 1048576) (hm : m < 1000000000) (hT : T ≤ 1000000000) :
    Calls Try.prog 17 #[ptr b, .string s, .string t] w fun e w' => e = .returned (.tuple #[.int .i64 (t.size : Int), .int .i64 0]) ∧ (∃ d', Has base b d' w' ∧ Ls d' NN (wh.set i (wh[i] ++ bs t)) ss ∧ Iv d' (m + 1) (T + t.size)) ∧ Ev DT base w w' := by
  have hsz : s.size ≤ 281474976710656 := by rw [hs, mk_size]; have := (has_ok h).names.len; rw [ls.names] at this; exact this _ (List.getElem_mem hi)
  have hst := iv.st
  obtain ⟨y, hy⟩ := h
  have h1 := append_call base b y d w hy s t hsz (step_any base b d (by omega)) (fun x hx => by have := iv.bl x (List.mem_of_getElem? hx); omega) (by omega)
  have iv2 := iv.append (bs s) (bs t)
  obtain ⟨q1, q2⟩ := ls.append i hi (bs t)
  rw [hs, bs_mk] at h1 iv2
  rw [len_bs] at q1 iv2
  rw [hs]
  refine h1.mono ?_
  rintro e w' ⟨rfl, h2, h3⟩
  refine ⟨?_, ⟨_, h2, q2, iv2⟩, h3⟩
  rw [q1]
theorem sync_at {base b : Nat} {d : Dk} {NN : NL} {wh ss : List Bs} {w : World} {m T : Nat} (h : Has base b d w) (ls : Ls d NN wh ss) (iv : Iv d m T) (i : Nat) (hi : i < NN.length) (hw : i < wh.length) (s : ByteArray) (hs : s = mk (NN[i]).1) (hm : m < 1000000000) :
    Calls Try.prog 18 #[ptr b, .string s] w fun e w' => e = .returned (.int .i64 0) ∧ (∃ d', Has base b d' w' ∧ Ls d' NN wh (ss.set i wh[i]) ∧ Iv d' (m + 1) T) ∧ Ev DT base w w' := by
  have hsz : s.size ≤ 281474976710656 := by rw [hs, mk_size]; have := (has_ok h).names.len; rw [ls.names] at this; exact this _ (List.getElem_mem hi)
  have hst := iv.st
  obtain ⟨y, hy⟩ := h
  have h1 := sync_call base b y d w hy s hsz (step_any base b d (by omega))
  have iv2 := iv.sync (bs s)
  obtain ⟨q1, q2⟩ := ls.sync i hi
  rw [hs, bs_mk] at h1 iv2
  rw [hs]
  refine h1.mono ?_
  rintro e w' ⟨rfl, h2, h3⟩
  refine ⟨?_, ⟨_, h2, q2, iv2⟩, h3⟩
  rw [q1]
theorem mk_app (a : Bs) (t : ByteArray) : mk a ++ t = mk (a ++ bs t) := by
  apply of_bs
  unfold bs mk
  simp
structure Q2 (base b : Nat) (W0 : World) (vn v9 v15 : Value) (n : Nat) (NN : NL) (M T : Nat) (d : Dk) (wh ss : List Bs) (W : World) : Prop where
  has : Has base b d W
  ls : Ls d NN wh ss
  r3 : R3 base vn v9 v15 n (keys NN) ss wh W
  iv : Iv d M T
  bel : Below base W0 W
theorem Q2.below {base b : Nat} {W0 : World} {vn v9 v15 : Value} {n : Nat} {NN : NL} {M T : Nat} {d : Dk} {wh ss : List Bs} {W W' : World} (h : Q2 base b W0 vn v9 v15 n NN M T d wh ss W) (hb : Below W.heap.size W W') : Q2 base b W0 vn v9 v15 n NN M T d wh ss W' := ⟨h.has.below hb, h.ls, h.r3.below hb, h.iv, h.bel.trans (hb.mono (has_hb h.has))⟩
theorem left_spec {d : Dk} {NN : NL} {wh ss : List Bs} (ls : Ls d NN wh ss) (bytes : List Int) (i : Nat) (hi : i < NN.length) (hw : i < wh.length) (hs : i < ss.length) : ∃ t, (ss[i]).length ≤ t ∧ t ≤ (wh[i]).length ∧ LastsM2.leftOf bytes wh ss i = (wh[i]).take t := by
  have e1 : wh.getD i [] = wh[i] := by rw [List.getD_eq_getElem?_getD, List.getElem?_eq_getElem hw]; rfl
  have e2 : ss.getD i [] = ss[i] := by rw [List.getD_eq_getElem?_getD, List.getElem?_eq_getElem hs]; rfl
  have h := congrArg List.length (ls.at_ i hi).2
  rw [List.length_take] at h
  have hwi := within_le (outl bytes i) ((wh[i]).length - (ss[i]).length)
  refine ⟨(ss[i]).length + within (outl bytes i) ((wh[i]).length - (ss[i]).length), by omega, by omega, ?_⟩
  unfold LastsM2.leftOf
  rw [e1, e2]
theorem head_is (l : Bs) (t : Nat) (ht : t ≤ l.length) (W : World) : (Instr.slice 9 (.string (mk l)) none (some (.int .i64 ((mk (l.take t)).size : Int))) none).run Try.prog W = .ok (.string (mk (l.take t))) W := by
  have e : (mk (l.take t)).size = t := by rw [mk_size, List.length_take]; omega
  have e2 : t ≤ (mk l).size := by rw [mk_size]; exact ht
  rw [e, run_slice_string_h (P := Try.prog) W 9 (mk l) Try.underlying9 .i64 (t : Int) (by omega) (by omega)]
  congr 2
  apply ByteArray.ext
  apply Array.toList_inj.1
  rw [Lib.extract_data]
  simp [mk]
theorem left_same {d : Dk} {NN : NL} {lf : List Bs} (ls : Ls d NN lf lf) : (List.range NN.length).map (LastsM2.leftOf [] lf lf) = lf := by
  apply List.ext_getElem (by simp [ls.wl])
  intro i h1 h2
  have e1 : lf.getD i [] = lf[i] := by rw [List.getD_eq_getElem?_getD, List.getElem?_eq_getElem h2]; rfl
  simp only [List.getElem_map, List.getElem_range, LastsM2.leftOf, e1]
  rw [List.take_of_length_le (by omega)]
set_option maxHeartbeats 60000000 in
set_option maxRecDepth 100000 in
theorem law_call (v : Value) (l : List DD) (vm : Value) (lm : List DD) (cn : Int) (ba : Option Addr) (bn bc : Nat) (bytes : List Int) (w : World) (hD : DSl w v l) (hwt : wts l ≤ 1048576) (hM : DSl w vm lm) (hwm : wts lm ≤ 1048576) (hI : IntSl w (.slice ba bn bc) bytes) (hbl : bytes.length ≤ 1048576) :
    Calls Try.prog 4 #[v, vm, .agg #[.int .i64 cn, .slice ba bn bc]] w fun e w' => e = .returned (.bool true) ∧ Below w.heap.size w w' := by
  obtain ⟨W0, hW0⟩ : ∃ W0, W0 = w.alloc (.cells #[.int .i64 cn, .slice ba bn bc] 36) := ⟨_, rfl⟩
  have b0 : Below w.heap.size w W0 := by rw [hW0]; exact (Below.refl _ w).alloc (Nat.le_refl _) _
  have HBX : Hid (W0.heap[w.heap.size]? = some (.cells #[.int .i64 cn, .slice ba bn bc] 36 (0, 0))) := by rw [hW0]; exact heap_alloc_new w _
  have B0 := hid_of b0
  have HN := hid_of (new_call W0)
  have HAW := hid_of awake_call
  obtain ⟨base, hbase⟩ : ∃ base, base = W0.heap.size := ⟨_, rfl⟩
  have HBS := hid_of hbase
  have HWB : Hid (w.heap.size ≤ base) := by rw [hbase]; exact b0.size
  have HLB : Hid (w.heap.size < base) := by rw [hbase]; exact lt_of HBX.out
  rw [← hbase] at HN
  unfold ptr at HN
  have HD := hid_of hD
  have HWT := hid_of hwt
  have HI := hid_of hI
  have HBL := hid_of hbl
  obtain ⟨⟨am, capm, rfl, hatm⟩, hokm⟩ := hM
  have HATM := hid_of hatm
  have HWM := hid_of hwm
  have hlm : lm.length ≤ 1048576 := Nat.le_trans (wts_len lm) hwm
  have HL1 : Hid (l.length ≤ 1048576) := Nat.le_trans (wts_len l) hwt
  obtain ⟨nm, hnm⟩ : ∃ nm, nm = lm.length := ⟨_, rfl⟩
  rw [← hnm] at hlm ⊢
  have HNMM := hid_of hnm
  clear hD hwt hatm hokm hwm hbase b0 hI hbl hnm
  go_enter Try.func4, Try.ntmps4
  go_wp2_with fail
  rw [← hW0]
  clear hW0
  refine HN.out.mono ?_
  rintro e w1 ⟨rfl, hd, b1⟩
  obtain ⟨b, hb⟩ : ∃ b, b = base + 2 := ⟨_, rfl⟩
  rw [← hb] at hd ⊢
  clear hb
  have H1 : Hid (Has base b new w1) := hd
  have B1 : Hid (Below base W0 w1) := b1
  clear hd b1 HN
  go_wp2_with fail
  refine (HAW.out _).mono ?_
  rintro e w2 ⟨rfl, b2⟩
  have H2 := hid_of (H1.out.below b2)
  have B2 : Hid (Below base W0 w2) := B1.out.trans (b2.mono (has_hb H1.out))
  have BW2 : Hid (Below w.heap.size w w2) := B0.out.trans (B2.out.mono HWB.out)
  clear b2
  have HPLY : Hid (Calls Try.prog 12 #[.pointer (some ⟨b, 0, none⟩), v] w2 fun e w' => e = .returned (.tuple #[]) ∧ (∃ d, Has base b d w' ∧ Iv d l.length (szs l) ∧ J d ∧ Rise d.names) ∧ Below base w2 w') := play_call base b v l w2 w HD.out HWT.out HWB.out BW2.out H2.out
  go_wp2_with fail
  refine HPLY.out.mono ?_
  rintro e w3 ⟨rfl, ⟨d, hd3, iv3, j3, rn3⟩, b3⟩
  have hst : d.steps < 1099511627776 := by have := iv3.st; have := HL1.out; omega
  have B3 : Hid (Below base W0 w3) := B2.out.trans b3
  have HCR : Hid (Calls Try.prog 13 #[.pointer (some ⟨b, 0, none⟩), .agg #[.int .i64 1099511627776, .slice none 0 0]] w3 fun e w' => e = .returned (.tuple #[]) ∧ Has base b (d.crash 1099511627776 []) w' ∧ Ev DT base w3 w') := crash_has base b d w3 hd3 _ _ _ _ [] hst (Nat.zero_le _) (fun W _ => int_nil W)
  obtain ⟨wh, hls⟩ := ls_first iv3.con j3 (has_ok hd3) rn3 hst
  have iv4 := iv3.crash 1099511627776 []
  obtain ⟨NN, hNN⟩ : ∃ NN, NN = d.names := ⟨_, rfl⟩
  rw [← hNN] at hls
  obtain ⟨d1, hd1⟩ : ∃ d1, d1 = d.crash 1099511627776 [] := ⟨_, rfl⟩
  rw [← hd1] at hls HCR iv4
  have LS := hid_of hls
  have IV := hid_of iv4
  have hst1 : Hid (d1.steps < 1099511627776) := by have := iv4.st; have := HL1.out; show _ < _; omega
  clear hls iv4 hd1 hNN hd3 iv3 j3 rn3 b3 hst HPLY HAW H1 B1 H2 B2 BW2
  go_wp2_with fail
  refine HCR.out.mono ?_
  rintro e w4 ⟨rfl, h4, ev4⟩
  have H4 := hid_of h4
  have B4 : Hid (Below base W0 w4) := B3.out.trans (ev4.below (by have := B3.out.size; rw [HBS.out]; exact this))
  clear h4 ev4 HCR B3
  have HNR := hid_of (names_row base b d1 NN w4 H4.out LS.out.down LS.out.names hst1.out)
  unfold ptr at HNR
  go_wp2_with fail
  refine HNR.out.mono ?_
  rintro e w5 ⟨gn, capn, rfl, hrn, b5⟩
  have H5 := hid_of (H4.out.below b5)
  have B5 : Hid (Below base W0 w5) := B4.out.trans (b5.mono (has_hb H4.out))
  have RN := hid_of hrn
  have HB45 : Hid (w4.heap.size ≤ w5.heap.size) := b5.size
  have HB4 := hid_of (has_hb H4.out)
  clear hrn b5 HNR H4 B4
  obtain ⟨n, hn⟩ : ∃ n, n = NN.length := ⟨_, rfl⟩
  rw [← hn] at RN ⊢
  have HNN := hid_of hn
  have hn40 : n < 1099511627776 := by have := (has_ok H5.out).nlen; rw [LS.out.names, ← hn] at this; have := hst1.out; omega
  clear hn
  go_wp2_with fail
  go_loopg [10, 9] n (fun g si sv wx => ∃ (k : Nat) (vv : Value), k ≤ n ∧ n ≤ k + g ∧ si = .int .i64 k ∧ sv = vv ∧ Hid (OT w5 (wh.take k) vv wx))
  case atStart => exact ⟨0, _, by omega, by omega, rfl, rfl, ot_start w5⟩
  case round =>
    obtain ⟨k, sv, hk, hg, rfl, hsv, O⟩ := hrel
    have hsv2 := hsv.symm
    clear hsv
    subst hsv2
    by_cases hlt : k < n
    · obtain ⟨g', rfl⟩ : ∃ g', gk = g' + 1 := ⟨gk - 1, by omega⟩
      have hkN : k < NN.length := by rw [← HNN.out]; exact hlt
      have hkw : k < wh.length := by rw [LS.out.wl]; exact hkN
      obtain ⟨p, hp⟩ : ∃ p, p = mk (NN[k]).1 := ⟨_, rfl⟩
      have q0 : wr.cell? ⟨gn, k, none⟩ = some (.string p) := by
        rw [cell_on O.out.2 (row_cell RN.out hlt (by rw [keys_len]; exact hkN)).1, key_at, hp]
      obtain ⟨S, hS⟩ : ∃ S, S = mk (wh[k]) := ⟨_, rfl⟩
      have HRD := hid_of (fun W (hb : Below w5.heap.size w5 W) => read_at (H5.out.below hb) LS.out k hkN hkw p hp)
      have HSY := hid_of (fun W (hb : Below w5.heap.size w5 W) => synced_at (H5.out.below hb) LS.out k hkN hkw p hp)
      unfold ptr at HRD HSY
      rw [← hS] at HRD
      obtain ⟨m, hm⟩ : ∃ m, m = (wh[k]).length := ⟨_, rfl⟩
      rw [← hm] at HSY
      have hSm : S.size = m := by rw [hS, mk_size, hm]
      have e1 : ((m : Int) != (S.size : Int)) = false := by rw [hSm]; simp
      have gi : (k : Int) < (n : Int) := by omega
      have ew : IntKind.i64.wrap ((k : Int) + 1) = (k : Int) + 1 := IntWalk.i64_in _ (by omega)
      have HQ : Hid (∀ W, OT w5 (wh.take k) sv W → ∃ v' w', (Builtin.append_ #[43, 43] 43 #[sv, .slice (some ⟨W.heap.size, 0, none⟩) 1 1]).run Try.prog (W.alloc (.cells #[.string S] 9)) = .ok v' w' ∧ OT w5 (wh.take (k + 1)) v' w') := by
        intro W hW
        have bW : Below W.heap.size W (W.alloc (.cells #[.string S] 9)) := (Below.refl _ W).alloc (Nat.le_refl _) _
        obtain ⟨v', w', h1, h2⟩ := app_txt w5 _ (wh.take k) [bs S] sv _ (ot_below hW bW) (sr_one W S) (by rw [List.length_take]; simp; omega)
        refine ⟨v', w', h1, ?_⟩
        rw [List.take_add_one, List.getElem?_eq_getElem hkw]
        rw [hS, bs_mk] at h2
        exact h2
      clear hp hS hm hSm hkN hkw
      go_wp2_with fail
      refine (HRD.out _ O.out.2).mono ?_
      rintro e w6 ⟨rfl, b6⟩
      have O6 := hid_of (ot_below O.out b6)
      have q6 : w6.cell? ⟨gn, k, none⟩ = some (.string p) := cell_on b6 q0
      clear b6
      go_wp2_with fail
      refine (HSY.out _ O6.out.2).mono ?_
      rintro e w7 ⟨rfl, b7⟩
      have O7 := hid_of (ot_below O6.out b7)
      clear b7
      obtain ⟨v8, w8, hr8, o8⟩ := HQ.out w7 O7.out
      have O8 := hid_of o8
      clear o8
      go_wp2_with (at_builtin; refine wpl_eq rfl _ _ 43 43 rfl sv (.slice (some ⟨w7.heap.size, 0, none⟩) 1 1) v8 (w7.alloc (.cells #[.string S] 9)) w8 rfl rfl hr8 ?_)
      go_wp2_with fail
      go_roundg g'
      case measure => omega
      case rel => exact ⟨k + 1, v8, by omega, by omega, by rw [show ((k + 1 : Nat) : Int) = (k : Int) + 1 from by omega], rfl, O8⟩
    · obtain rfl : k = n := by omega
      have gi : ¬ (k : Int) < (k : Int) := by omega
      have hO := O.out
      rw [List.take_of_length_le (by rw [LS.out.wl, ← HNN.out]; exact Nat.le_refl _)] at hO
      have hwk : wh.length = k := by rw [LS.out.wl, ← HNN.out]
      obtain ⟨v15, w9, hr9, ho9⟩ := app_txt wr wr [] wh (.slice none 0 0) sv (ot_start wr) (sr_ot hO) (by simp; omega)
      rw [List.nil_append] at ho9
      have hsz : w5.heap.size ≤ wr.heap.size := hO.2.size
      have r1 := hO.1
      have r2 := ho9.1
      rw [hwk] at r1 r2
      have RR : Hid (R3 base (.slice (some ⟨gn, 0, none⟩) k capn) sv v15 k (keys NN) wh wh w9) := by
        have e59 : Below w5.heap.size w5 w9 := hO.2.trans (ho9.2.mono hsz)
        have hb5 : base ≤ w5.heap.size := has_hb H5.out
        refine ⟨row_base (row_ev (T := fun _ => false) (b0 := 0) rfl RN.out (Ev.of_below e59)) HB4.out, row_base (row_ev (T := fun _ => false) (b0 := 0) rfl r1 (Ev.of_below ho9.2)) hb5, row_base r2 (Nat.le_trans hb5 hsz), fun g h1 h2 => ?_, fun g h1 h2 => ?_, fun g h1 h2 => ?_⟩
        · have := (row_lt RN.out h1).1; have := (row_lt r1 h2).2; omega
        · have := (row_lt RN.out h1).1; have := (row_lt r2 h2).2; omega
        · have := (row_lt r1 h1).1; have := (row_lt r2 h2).2; omega
      obtain ⟨a9, c9, hv9⟩ := row_shape r1
      obtain ⟨a15, c15, hv15⟩ := row_shape r2
      subst hv9 hv15
      have H9 := hid_of ((H5.out.below hO.2).below ho9.2)
      have B9 : Hid (Below base W0 w9) := (B5.out.trans (hO.2.mono (has_hb H5.out))).trans (ho9.2.mono (Nat.le_trans (has_hb H5.out) hsz))
      clear hO hsz r1 r2 ho9 H5 B5 RN O
      go_wp2_with (at_builtin; refine wpl_eq rfl _ _ 43 43 rfl (.slice none 0 0) (.slice a9 k c9) (.slice a15 k c15) wr w9 rfl rfl hr9 ?_)
      clear hr9
      have IVT : Hid (szs l ≤ 1048576) := Nat.le_trans (szs_le l) HWT.out
      have QQ : Hid (Q2 base b W0 (.slice (some ⟨gn, 0, none⟩) k capn) (.slice a9 k c9) (.slice a15 k c15) k NN (l.length + 1) (szs l) d1 wh wh w9) := ⟨H9.out, LS.out, RR.out, IV.out, B9.out⟩
      clear RR H9 B9 hwk LS IV hst1
      go_loopg [16] nm (fun g si wx => ∃ (j : Nat) (d : Dk) (wh ss : List Bs), j ≤ nm ∧ nm ≤ j + g ∧ si = .int .i64 j ∧ Hid (Q2 base b W0 (.slice (some ⟨gn, 0, none⟩) k capn) (.slice a9 k c9) (.slice a15 k c15) k NN (l.length + 1 + 2 * j) (szs l + szs (lm.take j)) d wh ss wx))
      case atStart => exact ⟨0, d1, wh, wh, by omega, by omega, rfl, QQ⟩
      case round =>
        obtain ⟨j, d2, wh2, ss2, hj, hg2, rfl, R⟩ := hrel
        by_cases hjl : j < nm
        · obtain ⟨g', rfl⟩ : ∃ g', gk = g' + 1 := ⟨gk - 1, by omega⟩
          have hltl : j < lm.length := by rw [← HNMM.out]; exact hjl
          obtain ⟨gm, om, rfl, hcc⟩ : ∃ g o, am = some ⟨g, o, none⟩ ∧ ∀ i (h : i < lm.length), DCell w g (o + i * 7) (lm[i]'h) := by
            rcases HATM.out with h | h
            · subst h; cases hltl
            · exact h
          have hc := hcc j hltl
          have hwx := Nat.le_trans (wts_mem (List.getElem_mem hltl)) HWM.out
          have hT := Nat.le_trans (szs_all lm j) (Nat.le_trans (szs_le lm) HWM.out)
          have hT1 := szs_take lm j hltl
          obtain ⟨x, hx⟩ : ∃ x, x = lm[j] := ⟨_, rfl⟩
          rw [← hx] at hc hwx hT1
          obtain ⟨K, A, B, N, fa, fn, fc, cn2, ba2, bn2, bc2, fl, bytes2⟩ := x
          have HCB := hid_of (fun W (hb : Below base W0 W) => hc.below (B0.out.trans (hb.mono HWB.out)))
          have hBs : B.size ≤ 1048576 := by unfold DD.wt at hwx; simp only at hwx; omega
          have c3 : wr.cell? ⟨gm, om + j * 7 + 3, none⟩ = some (.int .i64 N) := (HCB.out wr R.out.bel).c3
          have gi2 : (j : Int) < (nm : Int) := by omega
          by_cases hk0 : k = 0
          · have hk0i : ((k : Int) == 0) = true := by rw [hk0]; rfl
            clear hk0
            try clear hc
            try clear hcc
            try clear hwx
            try clear hT
            try clear hT1
            try clear hx
            try clear hltl
            try clear hBs
            try clear HCB
            have bx : wr.heap[w.heap.size]? = some (.cells #[.int .i64 cn, .slice ba bn bc] 36 (0, 0)) := (R.out.bel.block _ HLB.out).trans HBX.out
            have bx0 : wr.cell? ⟨w.heap.size, 0, none⟩ = some (.int .i64 cn) := Lib.cell_of_heap bx 0
            have bx1 : wr.cell? ⟨w.heap.size, 1, none⟩ = some (.slice ba bn bc) := Lib.cell_of_heap bx 1
            have hstz : d2.steps < 1099511627776 := by have := R.out.iv.st; have := HL1.out; omega
            have HC1 := hid_of (crash_has base b d2 wr R.out.has cn ba bn bc bytes hstz (by have := HBL.out; omega) (fun W hW => int_below HI.out (B0.out.trans ((R.out.bel.trans (hW.below (has_hb R.out.has))).mono HWB.out))))
            unfold ptr at HC1
            obtain ⟨LF, hLF⟩ : ∃ LF, LF = (List.range NN.length).map (LastsM2.leftOf bytes wh2 ss2) := ⟨_, rfl⟩
            have ls1 := R.out.ls.crash cn bytes
            rw [← hLF] at ls1
            have iv1 := R.out.iv.crash cn bytes
            obtain ⟨dc, hdc⟩ : ∃ dc, dc = d2.crash cn bytes := ⟨_, rfl⟩
            rw [← hdc] at ls1 iv1 HC1
            have LSC := hid_of ls1
            have HLF := hid_of hLF
            have hstc : Hid (dc.steps < 1099511627776) := by have := iv1.st; have := HL1.out; show _ < _; omega
            have IVC := hid_of iv1
            clear bx hLF ls1 iv1 hdc hstz QQ
            have hkl : (keys NN).length = k := by rw [keys_len, ← HNN.out]
            have HNMS := hid_of (fun W (h : Has base b dc W) => names_sr base b dc NN W h LSC.out.down LSC.out.names hstc.out)
            have HLST := hid_of (fun W (h : Has base b dc W) => lasting_sr base b dc NN W h LSC.out.down LSC.out.last hstc.out)
            have HTXT := hid_of (fun W (u : Value) (h : SR W u (keys NN)) (r : R3 base (.slice (some ⟨gn, 0, none⟩) k capn) (.slice a9 k c9) (.slice a15 k c15) k (keys NN) ss2 wh2 W) => texts_same u (.slice (some ⟨gn, 0, none⟩) k capn) (keys NN) W h (sr_of r.rn hkl) (by omega))
            unfold ptr at HNMS HLST
            clear hkl
            go_wp2_with fail
            refine HC1.out.mono ?_
            rintro e t1 ⟨rfl, h1, ev1⟩
            have HT1 := hid_of h1
            have RT1 := hid_of (R.out.r3.ev rfl ev1)
            have BT1 : Hid (Below base W0 t1) := R.out.bel.trans (ev1.below (has_hb R.out.has))
            clear h1 ev1 HC1
            go_wp2_with fail
            refine (HNMS.out _ HT1.out).mono ?_
            rintro e t2 ⟨u2, rfl, s2, b2⟩
            have RT2 := hid_of (RT1.out.below b2)
            have HT2 := hid_of (HT1.out.below b2)
            have BT2 : Hid (Below base W0 t2) := BT1.out.trans (b2.mono (has_hb HT1.out))
            have S2 := hid_of s2
            clear s2
            clear b2
            go_wp2_with fail
            refine (HTXT.out _ _ S2.out RT2.out).mono ?_
            rintro e t3 ⟨rfl, b3⟩
            have RT3 := hid_of (RT2.out.below b3)
            have HT3 := hid_of (HT2.out.below b3)
            have BT3 : Hid (Below base W0 t3) := BT2.out.trans (b3.mono (has_hb HT2.out))
            clear b3
            go_wp2_with fail
            refine (HLST.out _ HT3.out).mono ?_
            rintro e t4 ⟨u4, rfl, s4, b4⟩
            have RT4 := hid_of (RT3.out.below b4)
            have HT4 := hid_of (HT3.out.below b4)
            have BT4 : Hid (Below base W0 t4) := BT3.out.trans (b4.mono (has_hb HT3.out))
            have S4 := hid_of s4
            clear s4
            clear b4
            go_wp2_with fail
            refine (HTXT.out _ _ S4.out RT4.out).mono ?_
            rintro e t5 ⟨rfl, b5⟩
            have RT5 := hid_of (RT4.out.below b5)
            have HT5 := hid_of (HT4.out.below b5)
            have BT5 : Hid (Below base W0 t5) := BT4.out.trans (b5.mono (has_hb HT4.out))
            clear b5
            go_wp2_with fail
            go_loopg [21, 20] k (fun g si sv wx => ∃ (i : Nat) (vv : Value), i ≤ k ∧ k ≤ i + g ∧ si = .int .i64 i ∧ sv = vv ∧ Hid (OT t5 (LF.take i) vv wx))
            case atStart => exact ⟨0, _, by omega, by omega, rfl, rfl, ot_start t5⟩
            case round =>
              obtain ⟨i, sv, hi, hgi, rfl, hsv, O⟩ := hrel
              have hsv2 := hsv.symm
              clear hsv
              subst hsv2
              by_cases hil : i < k
              · obtain ⟨g'', rfl⟩ : ∃ g'', gk = g'' + 1 := ⟨gk - 1, by omega⟩
                obtain ⟨g9, q9, e9, l9⟩ := row_slice RT5.out.rs (by omega)
                obtain ⟨g15, q15, e15, l15⟩ := row_slice RT5.out.rw (by omega)
                injection e9 with e91 e92 e93
                injection e15 with e151 e152 e153
                subst e91 e93 e151 e153
                have hiN : i < NN.length := by rw [← HNN.out]; exact hil
                have hiL : i < LF.length := by rw [LSC.out.wl]; exact hiN
                have hiw : i < wh2.length := by rw [R.out.ls.wl]; exact hiN
                have his : i < ss2.length := by rw [R.out.ls.sl]; exact hiN
                obtain ⟨p, hp⟩ : ∃ p, p = mk (NN[i]).1 := ⟨_, rfl⟩
                have q0 : wr.cell? ⟨gn, i, none⟩ = some (.string p) := by rw [cell_on O.out.2 (row_cell RT5.out.rn hil (by rw [keys_len]; exact hiN)).1, key_at, hp]
                obtain ⟨S, hS⟩ : ∃ S, S = mk (LF[i]) := ⟨_, rfl⟩
                obtain ⟨WH, hWH⟩ : ∃ WH, WH = mk (wh2[i]) := ⟨_, rfl⟩
                obtain ⟨SS, hSS⟩ : ∃ SS, SS = mk (ss2[i]) := ⟨_, rfl⟩
                obtain ⟨t, ht1, ht2, ht3⟩ := left_spec R.out.ls bytes i hiN hiw his
                have hLi : LF[i] = (wh2[i]).take t := by
                  have : LF[i]? = some (LastsM2.leftOf bytes wh2 ss2 i) := by rw [HLF.out, List.getElem?_map, List.getElem?_range hiN]; rfl
                  rw [List.getElem?_eq_getElem hiL] at this
                  injection this with this
                  rw [this, ht3]
                have hS1 : S.size = t := by rw [hS, mk_size, hLi, List.length_take]; omega
                have hW1 : t ≤ WH.size := by rw [hWH, mk_size]; exact ht2
                have hS2 : SS.size ≤ t := by rw [hSS, mk_size]; exact ht1
                have hslS : ∀ W, (Instr.slice 9 (.string WH) none (some (.int .i64 (S.size : Int))) none).run Try.prog W = .ok (.string S) W := by rw [hWH, hS, hLi]; exact head_is _ _ ht2
                have HRD := hid_of (fun W (hb : Below t5.heap.size t5 W) => read_at (HT5.out.below hb) LSC.out i hiN hiL p hp)
                unfold ptr at HRD
                rw [← hS] at HRD
                have HC9 := hid_of (fun W (hb : Below t5.heap.size t5 W) => show W.cell? ⟨g9, i, none⟩ = some (.string SS) by rw [cell_on hb (row_cell RT5.out.rs hil his).1, hSS])
                have HC15 := hid_of (fun W (hb : Below t5.heap.size t5 W) => show W.cell? ⟨g15, i, none⟩ = some (.string WH) by rw [cell_on hb (row_cell RT5.out.rw hil hiw).1, hWH])
                have HQ3 : Hid (∀ W, OT t5 (LF.take i) sv W → ∃ v' w', (Builtin.append_ #[43, 43] 43 #[sv, .slice (some ⟨W.heap.size, 0, none⟩) 1 1]).run Try.prog (W.alloc (.cells #[.string S] 9)) = .ok v' w' ∧ OT t5 (LF.take (i + 1)) v' w') := by
                  intro W hW
                  have bW : Below W.heap.size W (W.alloc (.cells #[.string S] 9)) := (Below.refl _ W).alloc (Nat.le_refl _) _
                  obtain ⟨v', w', h1, h2⟩ := app_txt t5 _ (LF.take i) [bs S] sv _ (ot_below hW bW) (sr_one W S) (by rw [List.length_take]; simp; omega)
                  refine ⟨v', w', h1, ?_⟩
                  rw [List.take_add_one, List.getElem?_eq_getElem hiL]
                  rw [hS, bs_mk] at h2
                  exact h2
                have gi3 : (i : Int) < (k : Int) := by omega
                have ew3 : IntKind.i64.wrap ((i : Int) + 1) = (i : Int) + 1 := IntWalk.i64_in _ (by omega)
                have f1 : ¬ ((S.size : Int) < (SS.size : Int)) := by omega
                have f2 : ¬ ((WH.size : Int) < (S.size : Int)) := by omega
                clear hp hS hWH hSS ht1 ht2 ht3 hLi hS1 hW1 hS2 hiN hiL hiw his
                go_wp2_with fail
                refine (HRD.out _ O.out.2).mono ?_
                rintro e t6 ⟨rfl, b6⟩
                have O6 := hid_of (ot_below O.out b6)
                have y9 := HC9.out _ O6.out.2
                have y15 := HC15.out _ O6.out.2
                clear b6 HC9 HC15 HRD
                obtain ⟨v8, w8, hr8, o8⟩ := HQ3.out t6 O6.out
                have O8 := hid_of o8
                clear o8 HQ3
                go_wp2_with (at_builtin; refine wpl_eq rfl _ _ 43 43 rfl sv (.slice (some ⟨t6.heap.size, 0, none⟩) 1 1) v8 (t6.alloc (.cells #[.string S] 9)) w8 rfl rfl hr8 ?_)
                go_wp2_with fail
                go_roundg g''
                case measure => omega
                case rel => exact ⟨i + 1, v8, by omega, by omega, by rw [show ((i + 1 : Nat) : Int) = (i : Int) + 1 from by omega], rfl, O8⟩
              · obtain rfl : i = k := by omega
                have gi3 : ¬ (i : Int) < (i : Int) := by omega
                have hO := O.out
                rw [List.take_of_length_le (by rw [LSC.out.wl, ← HNN.out]; exact Nat.le_refl _)] at hO
                have hlk : LF.length = i := by rw [LSC.out.wl, ← HNN.out]
                have h6 := HT5.out.below hO.2
                have HC2 := hid_of (crash_has base b dc wr h6 0 none 0 0 [] hstc.out (by simp) (fun W hW => int_nil W))
                unfold ptr at HC2
                have ls2 := LSC.out.crash 0 []
                rw [left_same LSC.out] at ls2
                have hst2 : Hid ((dc.crash 0 []).steps < 1099511627776) := by have := (IVC.out.crash 0 []).st; have := HL1.out; show _ < _; omega
                obtain ⟨de, hde⟩ : ∃ de, de = dc.crash 0 [] := ⟨_, rfl⟩
                rw [← hde] at ls2 HC2 hst2
                have LSE := hid_of ls2
                have RT6 := hid_of (RT5.out.below hO.2)
                have BT6 : Hid (Below base W0 wr) := BT5.out.trans (hO.2.mono (has_hb HT5.out))
                have r20 := hO.1
                rw [hlk] at r20
                have R20 := hid_of r20
                have HLK := hid_of hlk
                have HB6 := hid_of (has_hb h6)
                have HNM2 := hid_of (fun W (h : Has base b de W) => names_sr base b de NN W h LSE.out.down LSE.out.names hst2.out)
                unfold ptr at HNM2
                clear hO ls2 hde r20 hlk O HT5 h6 HNMS HLST
                go_wp2_with fail
                refine HC2.out.mono ?_
                rintro e t7 ⟨rfl, h7, ev7⟩
                have HT7 := hid_of h7
                have RT7 := hid_of (RT6.out.ev rfl ev7)
                have R27 := hid_of (row_ev (T := DT) rfl R20.out ev7)
                have BT7 : Hid (Below base W0 t7) := BT6.out.trans (ev7.below HB6.out)
                clear h7 ev7 HC2
                go_wp2_with fail
                go_loopg [24] i (fun g si wx => ∃ q : Nat, q ≤ i ∧ i ≤ q + g ∧ si = .int .i64 q ∧ Hid (Below t7.heap.size t7 wx))
                case atStart => exact ⟨0, by omega, by omega, rfl, Below.refl _ _⟩
                case round =>
                  obtain ⟨q, hq, hgq, rfl, BQ⟩ := hrel
                  by_cases hql : q < i
                  · obtain ⟨gq, rfl⟩ : ∃ gq, gk = gq + 1 := ⟨gk - 1, by omega⟩
                    obtain ⟨g20, q20, e20, l20⟩ := row_slice R27.out (by omega)
                    subst e20
                    have hqN : q < NN.length := by rw [← HNN.out]; exact hql
                    have hqL : q < LF.length := by rw [HLK.out]; exact hql
                    obtain ⟨p, hp⟩ : ∃ p, p = mk (NN[q]).1 := ⟨_, rfl⟩
                    have q0 : wr.cell? ⟨gn, q, none⟩ = some (.string p) := by rw [cell_on BQ.out (row_cell RT7.out.rn hql (by rw [keys_len]; exact hqN)).1, key_at, hp]
                    obtain ⟨S, hS⟩ : ∃ S, S = mk (LF[q]) := ⟨_, rfl⟩
                    have HRD := hid_of (fun W (hb : Below t7.heap.size t7 W) => read_at (HT7.out.below hb) LSE.out q hqN hqL p hp)
                    unfold ptr at HRD
                    rw [← hS] at HRD
                    have HC20 := hid_of (fun W (hb : Below t7.heap.size t7 W) => show W.cell? ⟨g20, q, none⟩ = some (.string S) by rw [cell_on hb (row_cell R27.out hql hqL).1, hS])
                    have gi4 : (q : Int) < (i : Int) := by omega
                    have ew4 : IntKind.i64.wrap ((q : Int) + 1) = (q : Int) + 1 := IntWalk.i64_in _ (by omega)
                    clear hp hS hqN hqL
                    go_wp2_with fail
                    refine (HRD.out _ BQ.out).mono ?_
                    rintro e t8 ⟨rfl, b8⟩
                    have BQ8 := hid_of (BQ.out.trans (b8.mono BQ.out.size))
                    have y20 := HC20.out _ BQ8.out
                    clear b8 HRD HC20
                    go_wp2_with fail
                    go_roundg gq
                    case measure => omega
                    case rel => exact ⟨q + 1, by omega, by omega, by rw [show ((q + 1 : Nat) : Int) = (q : Int) + 1 from by omega], BQ8⟩
                  · obtain rfl : q = i := by omega
                    have gi4 : ¬ (q : Int) < (q : Int) := by omega
                    have HT9 := hid_of (HT7.out.below BQ.out)
                    have RT9 := hid_of (RT7.out.below BQ.out)
                    have BT9 : Hid (Below base W0 wr) := BT7.out.trans (BQ.out.mono (has_hb HT7.out))
                    clear BQ R27 R20
                    go_wp2_with fail
                    refine (HNM2.out _ HT9.out).mono ?_
                    rintro e t10 ⟨u10, rfl, s10, b10⟩
                    have RT10 := hid_of (RT9.out.below b10)
                    have BT10 : Hid (Below base W0 t10) := BT9.out.trans (b10.mono (has_hb HT9.out))
                    have HT10 := hid_of (HT9.out.below b10)
                    have S10 := hid_of s10
                    clear s10 b10
                    go_wp2_with fail
                    refine (HTXT.out _ _ S10.out RT10.out).mono ?_
                    rintro e t11 ⟨rfl, b11⟩
                    go_wp2_with fail
                    go_ret
                    exact ⟨rfl, B0.out.trans ((BT10.out.trans (b11.mono (has_hb HT10.out))).mono HWB.out)⟩
          · by_cases hN : N < 0
            · have hkn : ((k : Int) == 0) = false := by rw [beq_eq_false_iff_ne]; omega
              clear hk0
              try clear hc
              try clear hcc
              try clear hwx
              try clear hT
              try clear hT1
              try clear hx
              try clear hltl
              try clear hBs
              try clear HCB
              have bx : wr.heap[w.heap.size]? = some (.cells #[.int .i64 cn, .slice ba bn bc] 36 (0, 0)) := (R.out.bel.block _ HLB.out).trans HBX.out
              have bx0 : wr.cell? ⟨w.heap.size, 0, none⟩ = some (.int .i64 cn) := Lib.cell_of_heap bx 0
              have bx1 : wr.cell? ⟨w.heap.size, 1, none⟩ = some (.slice ba bn bc) := Lib.cell_of_heap bx 1
              have hstz : d2.steps < 1099511627776 := by have := R.out.iv.st; have := HL1.out; omega
              have HC1 := hid_of (crash_has base b d2 wr R.out.has cn ba bn bc bytes hstz (by have := HBL.out; omega) (fun W hW => int_below HI.out (B0.out.trans ((R.out.bel.trans (hW.below (has_hb R.out.has))).mono HWB.out))))
              unfold ptr at HC1
              obtain ⟨LF, hLF⟩ : ∃ LF, LF = (List.range NN.length).map (LastsM2.leftOf bytes wh2 ss2) := ⟨_, rfl⟩
              have ls1 := R.out.ls.crash cn bytes
              rw [← hLF] at ls1
              have iv1 := R.out.iv.crash cn bytes
              obtain ⟨dc, hdc⟩ : ∃ dc, dc = d2.crash cn bytes := ⟨_, rfl⟩
              rw [← hdc] at ls1 iv1 HC1
              have LSC := hid_of ls1
              have HLF := hid_of hLF
              have hstc : Hid (dc.steps < 1099511627776) := by have := iv1.st; have := HL1.out; show _ < _; omega
              have IVC := hid_of iv1
              clear bx hLF ls1 iv1 hdc hstz QQ
              have hkl : (keys NN).length = k := by rw [keys_len, ← HNN.out]
              have HNMS := hid_of (fun W (h : Has base b dc W) => names_sr base b dc NN W h LSC.out.down LSC.out.names hstc.out)
              have HLST := hid_of (fun W (h : Has base b dc W) => lasting_sr base b dc NN W h LSC.out.down LSC.out.last hstc.out)
              have HTXT := hid_of (fun W (u : Value) (h : SR W u (keys NN)) (r : R3 base (.slice (some ⟨gn, 0, none⟩) k capn) (.slice a9 k c9) (.slice a15 k c15) k (keys NN) ss2 wh2 W) => texts_same u (.slice (some ⟨gn, 0, none⟩) k capn) (keys NN) W h (sr_of r.rn hkl) (by omega))
              unfold ptr at HNMS HLST
              clear hkl
              go_wp2_with fail
              refine HC1.out.mono ?_
              rintro e t1 ⟨rfl, h1, ev1⟩
              have HT1 := hid_of h1
              have RT1 := hid_of (R.out.r3.ev rfl ev1)
              have BT1 : Hid (Below base W0 t1) := R.out.bel.trans (ev1.below (has_hb R.out.has))
              clear h1 ev1 HC1
              go_wp2_with fail
              refine (HNMS.out _ HT1.out).mono ?_
              rintro e t2 ⟨u2, rfl, s2, b2⟩
              have RT2 := hid_of (RT1.out.below b2)
              have HT2 := hid_of (HT1.out.below b2)
              have BT2 : Hid (Below base W0 t2) := BT1.out.trans (b2.mono (has_hb HT1.out))
              have S2 := hid_of s2
              clear s2
              clear b2
              go_wp2_with fail
              refine (HTXT.out _ _ S2.out RT2.out).mono ?_
              rintro e t3 ⟨rfl, b3⟩
              have RT3 := hid_of (RT2.out.below b3)
              have HT3 := hid_of (HT2.out.below b3)
              have BT3 : Hid (Below base W0 t3) := BT2.out.trans (b3.mono (has_hb HT2.out))
              clear b3
              go_wp2_with fail
              refine (HLST.out _ HT3.out).mono ?_
              rintro e t4 ⟨u4, rfl, s4, b4⟩
              have RT4 := hid_of (RT3.out.below b4)
              have HT4 := hid_of (HT3.out.below b4)
              have BT4 : Hid (Below base W0 t4) := BT3.out.trans (b4.mono (has_hb HT3.out))
              have S4 := hid_of s4
              clear s4
              clear b4
              go_wp2_with fail
              refine (HTXT.out _ _ S4.out RT4.out).mono ?_
              rintro e t5 ⟨rfl, b5⟩
              have RT5 := hid_of (RT4.out.below b5)
              have HT5 := hid_of (HT4.out.below b5)
              have BT5 : Hid (Below base W0 t5) := BT4.out.trans (b5.mono (has_hb HT4.out))
              clear b5
              go_wp2_with fail
              go_loopg [21, 20] k (fun g si sv wx => ∃ (i : Nat) (vv : Value), i ≤ k ∧ k ≤ i + g ∧ si = .int .i64 i ∧ sv = vv ∧ Hid (OT t5 (LF.take i) vv wx))
              case atStart => exact ⟨0, _, by omega, by omega, rfl, rfl, ot_start t5⟩
              case round =>
                obtain ⟨i, sv, hi, hgi, rfl, hsv, O⟩ := hrel
                have hsv2 := hsv.symm
                clear hsv
                subst hsv2
                by_cases hil : i < k
                · obtain ⟨g'', rfl⟩ : ∃ g'', gk = g'' + 1 := ⟨gk - 1, by omega⟩
                  obtain ⟨g9, q9, e9, l9⟩ := row_slice RT5.out.rs (by omega)
                  obtain ⟨g15, q15, e15, l15⟩ := row_slice RT5.out.rw (by omega)
                  injection e9 with e91 e92 e93
                  injection e15 with e151 e152 e153
                  subst e91 e93 e151 e153
                  have hiN : i < NN.length := by rw [← HNN.out]; exact hil
                  have hiL : i < LF.length := by rw [LSC.out.wl]; exact hiN
                  have hiw : i < wh2.length := by rw [R.out.ls.wl]; exact hiN
                  have his : i < ss2.length := by rw [R.out.ls.sl]; exact hiN
                  obtain ⟨p, hp⟩ : ∃ p, p = mk (NN[i]).1 := ⟨_, rfl⟩
                  have q0 : wr.cell? ⟨gn, i, none⟩ = some (.string p) := by rw [cell_on O.out.2 (row_cell RT5.out.rn hil (by rw [keys_len]; exact hiN)).1, key_at, hp]
                  obtain ⟨S, hS⟩ : ∃ S, S = mk (LF[i]) := ⟨_, rfl⟩
                  obtain ⟨WH, hWH⟩ : ∃ WH, WH = mk (wh2[i]) := ⟨_, rfl⟩
                  obtain ⟨SS, hSS⟩ : ∃ SS, SS = mk (ss2[i]) := ⟨_, rfl⟩
                  obtain ⟨t, ht1, ht2, ht3⟩ := left_spec R.out.ls bytes i hiN hiw his
                  have hLi : LF[i] = (wh2[i]).take t := by
                    have : LF[i]? = some (LastsM2.leftOf bytes wh2 ss2 i) := by rw [HLF.out, List.getElem?_map, List.getElem?_range hiN]; rfl
                    rw [List.getElem?_eq_getElem hiL] at this
                    injection this with this
                    rw [this, ht3]
                  have hS1 : S.size = t := by rw [hS, mk_size, hLi, List.length_take]; omega
                  have hW1 : t ≤ WH.size := by rw [hWH, mk_size]; exact ht2
                  have hS2 : SS.size ≤ t := by rw [hSS, mk_size]; exact ht1
                  have hslS : ∀ W, (Instr.slice 9 (.string WH) none (some (.int .i64 (S.size : Int))) none).run Try.prog W = .ok (.string S) W := by rw [hWH, hS, hLi]; exact head_is _ _ ht2
                  have HRD := hid_of (fun W (hb : Below t5.heap.size t5 W) => read_at (HT5.out.below hb) LSC.out i hiN hiL p hp)
                  unfold ptr at HRD
                  rw [← hS] at HRD
                  have HC9 := hid_of (fun W (hb : Below t5.heap.size t5 W) => show W.cell? ⟨g9, i, none⟩ = some (.string SS) by rw [cell_on hb (row_cell RT5.out.rs hil his).1, hSS])
                  have HC15 := hid_of (fun W (hb : Below t5.heap.size t5 W) => show W.cell? ⟨g15, i, none⟩ = some (.string WH) by rw [cell_on hb (row_cell RT5.out.rw hil hiw).1, hWH])
                  have HQ3 : Hid (∀ W, OT t5 (LF.take i) sv W → ∃ v' w', (Builtin.append_ #[43, 43] 43 #[sv, .slice (some ⟨W.heap.size, 0, none⟩) 1 1]).run Try.prog (W.alloc (.cells #[.string S] 9)) = .ok v' w' ∧ OT t5 (LF.take (i + 1)) v' w') := by
                    intro W hW
                    have bW : Below W.heap.size W (W.alloc (.cells #[.string S] 9)) := (Below.refl _ W).alloc (Nat.le_refl _) _
                    obtain ⟨v', w', h1, h2⟩ := app_txt t5 _ (LF.take i) [bs S] sv _ (ot_below hW bW) (sr_one W S) (by rw [List.length_take]; simp; omega)
                    refine ⟨v', w', h1, ?_⟩
                    rw [List.take_add_one, List.getElem?_eq_getElem hiL]
                    rw [hS, bs_mk] at h2
                    exact h2
                  have gi3 : (i : Int) < (k : Int) := by omega
                  have ew3 : IntKind.i64.wrap ((i : Int) + 1) = (i : Int) + 1 := IntWalk.i64_in _ (by omega)
                  have f1 : ¬ ((S.size : Int) < (SS.size : Int)) := by omega
                  have f2 : ¬ ((WH.size : Int) < (S.size : Int)) := by omega
                  clear hp hS hWH hSS ht1 ht2 ht3 hLi hS1 hW1 hS2 hiN hiL hiw his
                  go_wp2_with fail
                  refine (HRD.out _ O.out.2).mono ?_
                  rintro e t6 ⟨rfl, b6⟩
                  have O6 := hid_of (ot_below O.out b6)
                  have y9 := HC9.out _ O6.out.2
                  have y15 := HC15.out _ O6.out.2
                  clear b6 HC9 HC15 HRD
                  obtain ⟨v8, w8, hr8, o8⟩ := HQ3.out t6 O6.out
                  have O8 := hid_of o8
                  clear o8 HQ3
                  go_wp2_with (at_builtin; refine wpl_eq rfl _ _ 43 43 rfl sv (.slice (some ⟨t6.heap.size, 0, none⟩) 1 1) v8 (t6.alloc (.cells #[.string S] 9)) w8 rfl rfl hr8 ?_)
                  go_wp2_with fail
                  go_roundg g''
                  case measure => omega
                  case rel => exact ⟨i + 1, v8, by omega, by omega, by rw [show ((i + 1 : Nat) : Int) = (i : Int) + 1 from by omega], rfl, O8⟩
                · obtain rfl : i = k := by omega
                  have gi3 : ¬ (i : Int) < (i : Int) := by omega
                  have hO := O.out
                  rw [List.take_of_length_le (by rw [LSC.out.wl, ← HNN.out]; exact Nat.le_refl _)] at hO
                  have hlk : LF.length = i := by rw [LSC.out.wl, ← HNN.out]
                  have h6 := HT5.out.below hO.2
                  have HC2 := hid_of (crash_has base b dc wr h6 0 none 0 0 [] hstc.out (by simp) (fun W hW => int_nil W))
                  unfold ptr at HC2
                  have ls2 := LSC.out.crash 0 []
                  rw [left_same LSC.out] at ls2
                  have hst2 : Hid ((dc.crash 0 []).steps < 1099511627776) := by have := (IVC.out.crash 0 []).st; have := HL1.out; show _ < _; omega
                  obtain ⟨de, hde⟩ : ∃ de, de = dc.crash 0 [] := ⟨_, rfl⟩
                  rw [← hde] at ls2 HC2 hst2
                  have LSE := hid_of ls2
                  have RT6 := hid_of (RT5.out.below hO.2)
                  have BT6 : Hid (Below base W0 wr) := BT5.out.trans (hO.2.mono (has_hb HT5.out))
                  have r20 := hO.1
                  rw [hlk] at r20
                  have R20 := hid_of r20
                  have HLK := hid_of hlk
                  have HB6 := hid_of (has_hb h6)
                  have HNM2 := hid_of (fun W (h : Has base b de W) => names_sr base b de NN W h LSE.out.down LSE.out.names hst2.out)
                  unfold ptr at HNM2
                  clear hO ls2 hde r20 hlk O HT5 h6 HNMS HLST
                  go_wp2_with fail
                  refine HC2.out.mono ?_
                  rintro e t7 ⟨rfl, h7, ev7⟩
                  have HT7 := hid_of h7
                  have RT7 := hid_of (RT6.out.ev rfl ev7)
                  have R27 := hid_of (row_ev (T := DT) rfl R20.out ev7)
                  have BT7 : Hid (Below base W0 t7) := BT6.out.trans (ev7.below HB6.out)
                  clear h7 ev7 HC2
                  go_wp2_with fail
                  go_loopg [24] i (fun g si wx => ∃ q : Nat, q ≤ i ∧ i ≤ q + g ∧ si = .int .i64 q ∧ Hid (Below t7.heap.size t7 wx))
                  case atStart => exact ⟨0, by omega, by omega, rfl, Below.refl _ _⟩
                  case round =>
                    obtain ⟨q, hq, hgq, rfl, BQ⟩ := hrel
                    by_cases hql : q < i
                    · obtain ⟨gq, rfl⟩ : ∃ gq, gk = gq + 1 := ⟨gk - 1, by omega⟩
                      obtain ⟨g20, q20, e20, l20⟩ := row_slice R27.out (by omega)
                      subst e20
                      have hqN : q < NN.length := by rw [← HNN.out]; exact hql
                      have hqL : q < LF.length := by rw [HLK.out]; exact hql
                      obtain ⟨p, hp⟩ : ∃ p, p = mk (NN[q]).1 := ⟨_, rfl⟩
                      have q0 : wr.cell? ⟨gn, q, none⟩ = some (.string p) := by rw [cell_on BQ.out (row_cell RT7.out.rn hql (by rw [keys_len]; exact hqN)).1, key_at, hp]
                      obtain ⟨S, hS⟩ : ∃ S, S = mk (LF[q]) := ⟨_, rfl⟩
                      have HRD := hid_of (fun W (hb : Below t7.heap.size t7 W) => read_at (HT7.out.below hb) LSE.out q hqN hqL p hp)
                      unfold ptr at HRD
                      rw [← hS] at HRD
                      have HC20 := hid_of (fun W (hb : Below t7.heap.size t7 W) => show W.cell? ⟨g20, q, none⟩ = some (.string S) by rw [cell_on hb (row_cell R27.out hql hqL).1, hS])
                      have gi4 : (q : Int) < (i : Int) := by omega
                      have ew4 : IntKind.i64.wrap ((q : Int) + 1) = (q : Int) + 1 := IntWalk.i64_in _ (by omega)
                      clear hp hS hqN hqL
                      go_wp2_with fail
                      refine (HRD.out _ BQ.out).mono ?_
                      rintro e t8 ⟨rfl, b8⟩
                      have BQ8 := hid_of (BQ.out.trans (b8.mono BQ.out.size))
                      have y20 := HC20.out _ BQ8.out
                      clear b8 HRD HC20
                      go_wp2_with fail
                      go_roundg gq
                      case measure => omega
                      case rel => exact ⟨q + 1, by omega, by omega, by rw [show ((q + 1 : Nat) : Int) = (q : Int) + 1 from by omega], BQ8⟩
                    · obtain rfl : q = i := by omega
                      have gi4 : ¬ (q : Int) < (q : Int) := by omega
                      have HT9 := hid_of (HT7.out.below BQ.out)
                      have RT9 := hid_of (RT7.out.below BQ.out)
                      have BT9 : Hid (Below base W0 wr) := BT7.out.trans (BQ.out.mono (has_hb HT7.out))
                      clear BQ R27 R20
                      go_wp2_with fail
                      refine (HNM2.out _ HT9.out).mono ?_
                      rintro e t10 ⟨u10, rfl, s10, b10⟩
                      have RT10 := hid_of (RT9.out.below b10)
                      have BT10 : Hid (Below base W0 t10) := BT9.out.trans (b10.mono (has_hb HT9.out))
                      have HT10 := hid_of (HT9.out.below b10)
                      have S10 := hid_of s10
                      clear s10 b10
                      go_wp2_with fail
                      refine (HTXT.out _ _ S10.out RT10.out).mono ?_
                      rintro e t11 ⟨rfl, b11⟩
                      go_wp2_with fail
                      go_ret
                      exact ⟨rfl, B0.out.trans ((BT10.out.trans (b11.mono (has_hb HT10.out))).mono HWB.out)⟩
            · obtain ⟨N0, rfl⟩ : ∃ N0 : Nat, N = (N0 : Int) := ⟨N.toNat, by omega⟩
              obtain ⟨r, hr⟩ : ∃ r, r = N0 % k := ⟨_, rfl⟩
              have hrk : r < k := by rw [hr]; exact Nat.mod_lt _ (by omega)
              have em : Int.tmod (N0 : Int) (k : Int) = (r : Int) := by rw [hr]; rfl
              have ek : ((k : Int) == 0) = false := by rw [beq_eq_false_iff_ne]; omega
              have ek2 : ¬ ((k : Int) = 0) := by omega
              have gr : (r : Int) < (k : Int) := by omega
              clear hr
              obtain ⟨g9, q9, e9, l9⟩ := row_slice R.out.r3.rs (by omega)
              obtain ⟨g15, q15, e15, l15⟩ := row_slice R.out.r3.rw (by omega)
              injection e9 with e91 e92 e93
              injection e15 with e151 e152 e153
              subst e91 e93 e151 e153
              have hrN : r < NN.length := by rw [← HNN.out]; exact hrk
              have hrw : r < wh2.length := by rw [R.out.ls.wl]; exact hrN
              have hrs : r < ss2.length := by rw [R.out.ls.sl]; exact hrN
              obtain ⟨p, hp⟩ : ∃ p, p = mk (NN[r]).1 := ⟨_, rfl⟩
              have HCN := hid_of (fun W (h : R3 base (.slice (some ⟨gn, 0, none⟩) k capn) (.slice (some ⟨g9, 0, none⟩) k c9) (.slice (some ⟨g15, 0, none⟩) k c15) k (keys NN) ss2 wh2 W) => show W.cell? ⟨gn, r, none⟩ = some (.string p) by
                rw [(row_cell h.rn hrk (by rw [keys_len]; exact hrN)).1, key_at, hp])
              have n0 : wr.cell? ⟨gn, r, none⟩ = some (.string p) := HCN.out _ R.out.r3
              have c2 : wr.cell? ⟨gm, om + j * 7 + 2, none⟩ = some (.string B) := (HCB.out wr R.out.bel).c2
              have hmj : l.length + 1 + 2 * j < 1000000000 := by have := HL1.out; omega
              have HAP := hid_of (fun W (hb : Below wr.heap.size wr W) => append_at (R.out.has.below hb) R.out.ls R.out.iv r hrN hrw p hp B hBs hmj (by have := IVT.out; omega))
              unfold ptr at HAP
              have eB : ((B.size : Int) != (B.size : Int)) = false := by simp
              obtain ⟨S, hS⟩ : ∃ S, S = mk (wh2[r]) := ⟨_, rfl⟩
              have HX1 : Hid (∀ W, Ev DT base wr.drew W → R3 base (.slice (some ⟨gn, 0, none⟩) k capn) (.slice (some ⟨g9, 0, none⟩) k c9) (.slice (some ⟨g15, 0, none⟩) k c15) k (keys NN) ss2 wh2 W ∧ Below base W0 W) := fun W ev => ⟨(R.out.r3.below (bd1 wr)).ev rfl ev, (R.out.bel.trans ((bd1 wr).mono (has_hb R.out.has))).trans (ev.below (has_hb (R.out.has.below (bd1 wr))))⟩
              have hSB : ¬ 9223372036854775807 < S.size + B.size := by
                have h1 := R.out.iv.bl _ (List.mem_of_getElem? (R.out.ls.at_ r hrN).1)
                rw [hS, mk_size]
                have := IVT.out
                simp only at h1
                omega
              have HS2 := hid_of hS
              have HP2 := hid_of hp
              clear hS hp hc hcc hwx hT hx hltl hBs hmj l9 l15 e92 e152 QQ
              have HTE := hid_of hT1
              clear hT1
              go_wp2_with fail
              go_region_held3 (fun W => W.cell? ⟨gn, r, none⟩ = some (.string p) ∧ W.cell? ⟨gm, om + j * 7 + 2, none⟩ = some (.string B)) (first | exact ⟨HCN.out _ X1.out.1, (HCB.out _ X1.out.2).c2⟩ | exact ⟨n0, c2⟩) (first
                | (go_at_call 17; refine Calls.mono (HAP.out _ (bd1 wr)) ?_; rintro e w10 ⟨rfl, ⟨d3, h3, ls3, iv3⟩, ev3⟩; have X1 : Hid (R3 base (.slice (some ⟨gn, 0, none⟩) k capn) (.slice (some ⟨g9, 0, none⟩) k c9) (.slice (some ⟨g15, 0, none⟩) k c15) k (keys NN) ss2 wh2 w10 ∧ Below base W0 w10) := hid_of (HX1.out w10 ev3); have X2 := hid_of (And.intro h3 (And.intro ls3 iv3)); clear h3 ls3 iv3 ev3))
              have c2b : w10.cell? ⟨gm, om + j * 7 + 2, none⟩ = some (.string B) := (HCB.out _ X1.out.2).c2
              have c0b : w10.cell? ⟨gm, om + j * 7, none⟩ = some (.int .i64 K) := (HCB.out _ X1.out.2).c0
              have y0 : w10.cell? ⟨g15, r, none⟩ = some (.string S) := by rw [(row_cell X1.out.1.rw hrk hrw).1, HS2.out]
              have y1 : w10.frozen? ⟨g15, r, none⟩ = false := (row_cell X1.out.1.rw hrk hrw).2
              clear HAP n0 c2 c3
              obtain ⟨WX, hWX⟩ : ∃ WX, WX = w10.setCell ⟨g15, r, none⟩ (.string (S ++ B)) := ⟨_, rfl⟩
              have eSB : Value.string (S ++ B) = encStr (wh2[r] ++ bs B) := by rw [HS2.out, mk_app]; rfl
              have X3 : Hid (Q2 base b W0 (.slice (some ⟨gn, 0, none⟩) k capn) (.slice (some ⟨g9, 0, none⟩) k c9) (.slice (some ⟨g15, 0, none⟩) k c15) k NN (l.length + 1 + 2 * j + 1) (szs l + szs (lm.take j) + B.size) d3 (wh2.set r (wh2[r] ++ bs B)) ss2 WX.drew) := by
                refine Q2.below (W := WX) ⟨?_, X2.out.2.1, ?_, X2.out.2.2, ?_⟩ (bd1 WX)
                · rw [hWX]; exact has_text X2.out.1 (row_kd X1.out.1.rw rfl).1
                · rw [hWX, eSB]; exact X1.out.1.setW hrk _
                · rw [hWX]; exact X1.out.2.setCell (show base ≤ (⟨g15, r, none⟩ : Addr).block from (row_kd X1.out.1.rw rfl).2.2) _
              have hrw2 : r < (wh2.set r (wh2[r] ++ bs B)).length := by rw [List.length_set]; exact hrw
              have z0 : WX.drew.cell? ⟨gn, r, none⟩ = some (.string p) := by rw [(row_cell X3.out.r3.rn hrk (by rw [keys_len]; exact hrN)).1, key_at, HP2.out]
              have z1 : WX.drew.cell? ⟨gm, om + j * 7, none⟩ = some (.int .i64 K) := (HCB.out _ X3.out.bel).c0
              have HTE2 : Hid (szs (lm.take (j + 1)) = szs (lm.take j) + B.size) := HTE.out
              have ew2 : IntKind.i64.wrap ((j : Int) + 1) = (j : Int) + 1 := IntWalk.i64_in _ (by omega)
              have HES := hid_of eSB
              clear eSB
              go_wp2_with fail
              go_region
              rw [← hWX]
              clear hWX
              by_cases hK : K = 3
              · have hmj2 : l.length + 1 + 2 * j + 1 < 1000000000 := by have := HL1.out; omega
                have HSN := hid_of (sync_at X3.out.has X3.out.ls X3.out.iv r hrN hrw2 p HP2.out hmj2)
                unfold ptr at HSN
                have hKb : (K == 3) = true := by rw [hK]; rfl
                clear y0 y1 c2b c0b hmj2
                go_wp2_with fail
                refine HSN.out.mono ?_
                rintro e w11 ⟨rfl, ⟨d4, h4, ls4, iv4⟩, ev4⟩
                have R4 := hid_of (X3.out.r3.ev rfl ev4)
                have B4 : Hid (Below base W0 w11) := X3.out.bel.trans (ev4.below (has_hb X3.out.has))
                have x0 : w11.cell? ⟨g15, r, none⟩ = some (.string (S ++ B)) := by rw [(row_cell R4.out.rw hrk hrw2).1, List.getElem_set_self, HES.out]; rfl
                have x1 : w11.cell? ⟨g9, r, none⟩ = some (.string (mk (ss2[r]))) := (row_cell R4.out.rs hrk hrs).1
                have x2 : w11.frozen? ⟨g9, r, none⟩ = false := (row_cell R4.out.rs hrk hrs).2
                have X5 : Hid (Q2 base b W0 (.slice (some ⟨gn, 0, none⟩) k capn) (.slice (some ⟨g9, 0, none⟩) k c9) (.slice (some ⟨g15, 0, none⟩) k c15) k NN (l.length + 1 + 2 * (j + 1)) (szs l + szs (lm.take (j + 1))) d4 (wh2.set r (wh2[r] ++ bs B)) (ss2.set r (wh2[r] ++ bs B)) (w11.setCell ⟨g9, r, none⟩ (.string (S ++ B)))) := by
                  refine ⟨has_text h4 (row_kd R4.out.rs rfl).1, ?_, by rw [HES.out]; exact R4.out.setS hrk _, iv4.more (by omega) (by rw [HTE2.out]; omega), B4.out.setCell (show base ≤ (⟨g9, r, none⟩ : Addr).block from (row_kd R4.out.rs rfl).2.2) _⟩
                  rw [List.getElem_set_self] at ls4
                  exact ls4
                clear h4 ls4 iv4 ev4 HSN
                go_wp2_with fail
                go_roundg g'
                case measure => omega
                case rel => exact ⟨j + 1, d4, _, _, by omega, by omega, by rw [show ((j + 1 : Nat) : Int) = (j : Int) + 1 from by omega], X5⟩
              · have hKb : (K == 3) = false := by rw [beq_eq_false_iff_ne]; exact hK
                have X5 : Hid (Q2 base b W0 (.slice (some ⟨gn, 0, none⟩) k capn) (.slice (some ⟨g9, 0, none⟩) k c9) (.slice (some ⟨g15, 0, none⟩) k c15) k NN (l.length + 1 + 2 * (j + 1)) (szs l + szs (lm.take (j + 1))) d3 (wh2.set r (wh2[r] ++ bs B)) ss2 WX.drew) := ⟨X3.out.has, X3.out.ls, X3.out.r3, X3.out.iv.more (by omega) (by rw [HTE2.out]; omega), X3.out.bel⟩
                clear y0 y1 c2b c0b
                go_wp2_with fail
                go_roundg g'
                case measure => omega
                case rel => exact ⟨j + 1, d3, _, _, by omega, by omega, by rw [show ((j + 1 : Nat) : Int) = (j : Int) + 1 from by omega], X5⟩
        · obtain rfl : j = nm := by omega
          have gi2 : ¬ (j : Int) < (j : Int) := by omega
          have bx : wr.heap[w.heap.size]? = some (.cells #[.int .i64 cn, .slice ba bn bc] 36 (0, 0)) := (R.out.bel.block _ HLB.out).trans HBX.out
          have bx0 : wr.cell? ⟨w.heap.size, 0, none⟩ = some (.int .i64 cn) := Lib.cell_of_heap bx 0
          have bx1 : wr.cell? ⟨w.heap.size, 1, none⟩ = some (.slice ba bn bc) := Lib.cell_of_heap bx 1
          have hstz : d2.steps < 1099511627776 := by have := R.out.iv.st; have := HL1.out; omega
          have HC1 := hid_of (crash_has base b d2 wr R.out.has cn ba bn bc bytes hstz (by have := HBL.out; omega) (fun W hW => int_below HI.out (B0.out.trans ((R.out.bel.trans (hW.below (has_hb R.out.has))).mono HWB.out))))
          unfold ptr at HC1
          obtain ⟨LF, hLF⟩ : ∃ LF, LF = (List.range NN.length).map (LastsM2.leftOf bytes wh2 ss2) := ⟨_, rfl⟩
          have ls1 := R.out.ls.crash cn bytes
          rw [← hLF] at ls1
          have iv1 := R.out.iv.crash cn bytes
          obtain ⟨dc, hdc⟩ : ∃ dc, dc = d2.crash cn bytes := ⟨_, rfl⟩
          rw [← hdc] at ls1 iv1 HC1
          have LSC := hid_of ls1
          have HLF := hid_of hLF
          have hstc : Hid (dc.steps < 1099511627776) := by have := iv1.st; have := HL1.out; show _ < _; omega
          have IVC := hid_of iv1
          clear bx hLF ls1 iv1 hdc hstz QQ
          have hkl : (keys NN).length = k := by rw [keys_len, ← HNN.out]
          have HNMS := hid_of (fun W (h : Has base b dc W) => names_sr base b dc NN W h LSC.out.down LSC.out.names hstc.out)
          have HLST := hid_of (fun W (h : Has base b dc W) => lasting_sr base b dc NN W h LSC.out.down LSC.out.last hstc.out)
          have HTXT := hid_of (fun W (u : Value) (h : SR W u (keys NN)) (r : R3 base (.slice (some ⟨gn, 0, none⟩) k capn) (.slice a9 k c9) (.slice a15 k c15) k (keys NN) ss2 wh2 W) => texts_same u (.slice (some ⟨gn, 0, none⟩) k capn) (keys NN) W h (sr_of r.rn hkl) (by omega))
          unfold ptr at HNMS HLST
          clear hkl
          go_wp2_with fail
          refine HC1.out.mono ?_
          rintro e t1 ⟨rfl, h1, ev1⟩
          have HT1 := hid_of h1
          have RT1 := hid_of (R.out.r3.ev rfl ev1)
          have BT1 : Hid (Below base W0 t1) := R.out.bel.trans (ev1.below (has_hb R.out.has))
          clear h1 ev1 HC1
          go_wp2_with fail
          refine (HNMS.out _ HT1.out).mono ?_
          rintro e t2 ⟨u2, rfl, s2, b2⟩
          have RT2 := hid_of (RT1.out.below b2)
          have HT2 := hid_of (HT1.out.below b2)
          have BT2 : Hid (Below base W0 t2) := BT1.out.trans (b2.mono (has_hb HT1.out))
          have S2 := hid_of s2
          clear s2
          clear b2
          go_wp2_with fail
          refine (HTXT.out _ _ S2.out RT2.out).mono ?_
          rintro e t3 ⟨rfl, b3⟩
          have RT3 := hid_of (RT2.out.below b3)
          have HT3 := hid_of (HT2.out.below b3)
          have BT3 : Hid (Below base W0 t3) := BT2.out.trans (b3.mono (has_hb HT2.out))
          clear b3
          go_wp2_with fail
          refine (HLST.out _ HT3.out).mono ?_
          rintro e t4 ⟨u4, rfl, s4, b4⟩
          have RT4 := hid_of (RT3.out.below b4)
          have HT4 := hid_of (HT3.out.below b4)
          have BT4 : Hid (Below base W0 t4) := BT3.out.trans (b4.mono (has_hb HT3.out))
          have S4 := hid_of s4
          clear s4
          clear b4
          go_wp2_with fail
          refine (HTXT.out _ _ S4.out RT4.out).mono ?_
          rintro e t5 ⟨rfl, b5⟩
          have RT5 := hid_of (RT4.out.below b5)
          have HT5 := hid_of (HT4.out.below b5)
          have BT5 : Hid (Below base W0 t5) := BT4.out.trans (b5.mono (has_hb HT4.out))
          clear b5
          go_wp2_with fail
          go_loopg [21, 20] k (fun g si sv wx => ∃ (i : Nat) (vv : Value), i ≤ k ∧ k ≤ i + g ∧ si = .int .i64 i ∧ sv = vv ∧ Hid (OT t5 (LF.take i) vv wx))
          case atStart => exact ⟨0, _, by omega, by omega, rfl, rfl, ot_start t5⟩
          case round =>
            obtain ⟨i, sv, hi, hgi, rfl, hsv, O⟩ := hrel
            have hsv2 := hsv.symm
            clear hsv
            subst hsv2
            by_cases hil : i < k
            · obtain ⟨g'', rfl⟩ : ∃ g'', gk = g'' + 1 := ⟨gk - 1, by omega⟩
              obtain ⟨g9, q9, e9, l9⟩ := row_slice RT5.out.rs (by omega)
              obtain ⟨g15, q15, e15, l15⟩ := row_slice RT5.out.rw (by omega)
              injection e9 with e91 e92 e93
              injection e15 with e151 e152 e153
              subst e91 e93 e151 e153
              have hiN : i < NN.length := by rw [← HNN.out]; exact hil
              have hiL : i < LF.length := by rw [LSC.out.wl]; exact hiN
              have hiw : i < wh2.length := by rw [R.out.ls.wl]; exact hiN
              have his : i < ss2.length := by rw [R.out.ls.sl]; exact hiN
              obtain ⟨p, hp⟩ : ∃ p, p = mk (NN[i]).1 := ⟨_, rfl⟩
              have q0 : wr.cell? ⟨gn, i, none⟩ = some (.string p) := by rw [cell_on O.out.2 (row_cell RT5.out.rn hil (by rw [keys_len]; exact hiN)).1, key_at, hp]
              obtain ⟨S, hS⟩ : ∃ S, S = mk (LF[i]) := ⟨_, rfl⟩
              obtain ⟨WH, hWH⟩ : ∃ WH, WH = mk (wh2[i]) := ⟨_, rfl⟩
              obtain ⟨SS, hSS⟩ : ∃ SS, SS = mk (ss2[i]) := ⟨_, rfl⟩
              obtain ⟨t, ht1, ht2, ht3⟩ := left_spec R.out.ls bytes i hiN hiw his
              have hLi : LF[i] = (wh2[i]).take t := by
                have : LF[i]? = some (LastsM2.leftOf bytes wh2 ss2 i) := by rw [HLF.out, List.getElem?_map, List.getElem?_range hiN]; rfl
                rw [List.getElem?_eq_getElem hiL] at this
                injection this with this
                rw [this, ht3]
              have hS1 : S.size = t := by rw [hS, mk_size, hLi, List.length_take]; omega
              have hW1 : t ≤ WH.size := by rw [hWH, mk_size]; exact ht2
              have hS2 : SS.size ≤ t := by rw [hSS, mk_size]; exact ht1
              have hslS : ∀ W, (Instr.slice 9 (.string WH) none (some (.int .i64 (S.size : Int))) none).run Try.prog W = .ok (.string S) W := by rw [hWH, hS, hLi]; exact head_is _ _ ht2
              have HRD := hid_of (fun W (hb : Below t5.heap.size t5 W) => read_at (HT5.out.below hb) LSC.out i hiN hiL p hp)
              unfold ptr at HRD
              rw [← hS] at HRD
              have HC9 := hid_of (fun W (hb : Below t5.heap.size t5 W) => show W.cell? ⟨g9, i, none⟩ = some (.string SS) by rw [cell_on hb (row_cell RT5.out.rs hil his).1, hSS])
              have HC15 := hid_of (fun W (hb : Below t5.heap.size t5 W) => show W.cell? ⟨g15, i, none⟩ = some (.string WH) by rw [cell_on hb (row_cell RT5.out.rw hil hiw).1, hWH])
              have HQ3 : Hid (∀ W, OT t5 (LF.take i) sv W → ∃ v' w', (Builtin.append_ #[43, 43] 43 #[sv, .slice (some ⟨W.heap.size, 0, none⟩) 1 1]).run Try.prog (W.alloc (.cells #[.string S] 9)) = .ok v' w' ∧ OT t5 (LF.take (i + 1)) v' w') := by
                intro W hW
                have bW : Below W.heap.size W (W.alloc (.cells #[.string S] 9)) := (Below.refl _ W).alloc (Nat.le_refl _) _
                obtain ⟨v', w', h1, h2⟩ := app_txt t5 _ (LF.take i) [bs S] sv _ (ot_below hW bW) (sr_one W S) (by rw [List.length_take]; simp; omega)
                refine ⟨v', w', h1, ?_⟩
                rw [List.take_add_one, List.getElem?_eq_getElem hiL]
                rw [hS, bs_mk] at h2
                exact h2
              have gi3 : (i : Int) < (k : Int) := by omega
              have ew3 : IntKind.i64.wrap ((i : Int) + 1) = (i : Int) + 1 := IntWalk.i64_in _ (by omega)
              have f1 : ¬ ((S.size : Int) < (SS.size : Int)) := by omega
              have f2 : ¬ ((WH.size : Int) < (S.size : Int)) := by omega
              clear hp hS hWH hSS ht1 ht2 ht3 hLi hS1 hW1 hS2 hiN hiL hiw his
              go_wp2_with fail
              refine (HRD.out _ O.out.2).mono ?_
              rintro e t6 ⟨rfl, b6⟩
              have O6 := hid_of (ot_below O.out b6)
              have y9 := HC9.out _ O6.out.2
              have y15 := HC15.out _ O6.out.2
              clear b6 HC9 HC15 HRD
              obtain ⟨v8, w8, hr8, o8⟩ := HQ3.out t6 O6.out
              have O8 := hid_of o8
              clear o8 HQ3
              go_wp2_with (at_builtin; refine wpl_eq rfl _ _ 43 43 rfl sv (.slice (some ⟨t6.heap.size, 0, none⟩) 1 1) v8 (t6.alloc (.cells #[.string S] 9)) w8 rfl rfl hr8 ?_)
              go_wp2_with fail
              go_roundg g''
              case measure => omega
              case rel => exact ⟨i + 1, v8, by omega, by omega, by rw [show ((i + 1 : Nat) : Int) = (i : Int) + 1 from by omega], rfl, O8⟩
            · obtain rfl : i = k := by omega
              have gi3 : ¬ (i : Int) < (i : Int) := by omega
              have hO := O.out
              rw [List.take_of_length_le (by rw [LSC.out.wl, ← HNN.out]; exact Nat.le_refl _)] at hO
              have hlk : LF.length = i := by rw [LSC.out.wl, ← HNN.out]
              have h6 := HT5.out.below hO.2
              have HC2 := hid_of (crash_has base b dc wr h6 0 none 0 0 [] hstc.out (by simp) (fun W hW => int_nil W))
              unfold ptr at HC2
              have ls2 := LSC.out.crash 0 []
              rw [left_same LSC.out] at ls2
              have hst2 : Hid ((dc.crash 0 []).steps < 1099511627776) := by have := (IVC.out.crash 0 []).st; have := HL1.out; show _ < _; omega
              obtain ⟨de, hde⟩ : ∃ de, de = dc.crash 0 [] := ⟨_, rfl⟩
              rw [← hde] at ls2 HC2 hst2
              have LSE := hid_of ls2
              have RT6 := hid_of (RT5.out.below hO.2)
              have BT6 : Hid (Below base W0 wr) := BT5.out.trans (hO.2.mono (has_hb HT5.out))
              have r20 := hO.1
              rw [hlk] at r20
              have R20 := hid_of r20
              have HLK := hid_of hlk
              have HB6 := hid_of (has_hb h6)
              have HNM2 := hid_of (fun W (h : Has base b de W) => names_sr base b de NN W h LSE.out.down LSE.out.names hst2.out)
              unfold ptr at HNM2
              clear hO ls2 hde r20 hlk O HT5 h6 HNMS HLST
              go_wp2_with fail
              refine HC2.out.mono ?_
              rintro e t7 ⟨rfl, h7, ev7⟩
              have HT7 := hid_of h7
              have RT7 := hid_of (RT6.out.ev rfl ev7)
              have R27 := hid_of (row_ev (T := DT) rfl R20.out ev7)
              have BT7 : Hid (Below base W0 t7) := BT6.out.trans (ev7.below HB6.out)
              clear h7 ev7 HC2
              go_wp2_with fail
              go_loopg [24] i (fun g si wx => ∃ q : Nat, q ≤ i ∧ i ≤ q + g ∧ si = .int .i64 q ∧ Hid (Below t7.heap.size t7 wx))
              case atStart => exact ⟨0, by omega, by omega, rfl, Below.refl _ _⟩
              case round =>
                obtain ⟨q, hq, hgq, rfl, BQ⟩ := hrel
                by_cases hql : q < i
                · obtain ⟨gq, rfl⟩ : ∃ gq, gk = gq + 1 := ⟨gk - 1, by omega⟩
                  obtain ⟨g20, q20, e20, l20⟩ := row_slice R27.out (by omega)
                  subst e20
                  have hqN : q < NN.length := by rw [← HNN.out]; exact hql
                  have hqL : q < LF.length := by rw [HLK.out]; exact hql
                  obtain ⟨p, hp⟩ : ∃ p, p = mk (NN[q]).1 := ⟨_, rfl⟩
                  have q0 : wr.cell? ⟨gn, q, none⟩ = some (.string p) := by rw [cell_on BQ.out (row_cell RT7.out.rn hql (by rw [keys_len]; exact hqN)).1, key_at, hp]
                  obtain ⟨S, hS⟩ : ∃ S, S = mk (LF[q]) := ⟨_, rfl⟩
                  have HRD := hid_of (fun W (hb : Below t7.heap.size t7 W) => read_at (HT7.out.below hb) LSE.out q hqN hqL p hp)
                  unfold ptr at HRD
                  rw [← hS] at HRD
                  have HC20 := hid_of (fun W (hb : Below t7.heap.size t7 W) => show W.cell? ⟨g20, q, none⟩ = some (.string S) by rw [cell_on hb (row_cell R27.out hql hqL).1, hS])
                  have gi4 : (q : Int) < (i : Int) := by omega
                  have ew4 : IntKind.i64.wrap ((q : Int) + 1) = (q : Int) + 1 := IntWalk.i64_in _ (by omega)
                  clear hp hS hqN hqL
                  go_wp2_with fail
                  refine (HRD.out _ BQ.out).mono ?_
                  rintro e t8 ⟨rfl, b8⟩
                  have BQ8 := hid_of (BQ.out.trans (b8.mono BQ.out.size))
                  have y20 := HC20.out _ BQ8.out
                  clear b8 HRD HC20
                  go_wp2_with fail
                  go_roundg gq
                  case measure => omega
                  case rel => exact ⟨q + 1, by omega, by omega, by rw [show ((q + 1 : Nat) : Int) = (q : Int) + 1 from by omega], BQ8⟩
                · obtain rfl : q = i := by omega
                  have gi4 : ¬ (q : Int) < (q : Int) := by omega
                  have HT9 := hid_of (HT7.out.below BQ.out)
                  have RT9 := hid_of (RT7.out.below BQ.out)
                  have BT9 : Hid (Below base W0 wr) := BT7.out.trans (BQ.out.mono (has_hb HT7.out))
                  clear BQ R27 R20
                  go_wp2_with fail
                  refine (HNM2.out _ HT9.out).mono ?_
                  rintro e t10 ⟨u10, rfl, s10, b10⟩
                  have RT10 := hid_of (RT9.out.below b10)
                  have BT10 : Hid (Below base W0 t10) := BT9.out.trans (b10.mono (has_hb HT9.out))
                  have HT10 := hid_of (HT9.out.below b10)
                  have S10 := hid_of s10
                  clear s10 b10
                  go_wp2_with fail
                  refine (HTXT.out _ _ S10.out RT10.out).mono ?_
                  rintro e t11 ⟨rfl, b11⟩
                  go_wp2_with fail
                  go_ret
                  exact ⟨rfl, B0.out.trans ((BT10.out.trans (b11.mono (has_hb HT10.out))).mono HWB.out)⟩
end Go.Proofs.Ytilbffbmpgebmaa.Lasts
