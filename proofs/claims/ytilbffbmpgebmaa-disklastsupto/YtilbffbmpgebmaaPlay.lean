/- play: a script on a new disk; what the first crash leaves. -/
import Derived.Test.YtilbffbmpgebmaaLastsM2
namespace Go.Proofs.Ytilbffbmpgebmaa.Play
open Go.RowKit Go.Maps Go.Sort
open Go.Proofs.Ytilbffbmpgebmaa.DiskMath
open Go.Proofs.Ytilbffbmpgebmaa.RefMath
open Go.Proofs.Ytilbffbmpgebmaa.Base
open Go.Proofs.Ytilbffbmpgebmaa.Small
open Go.Proofs.Ytilbffbmpgebmaa.File
open Go.Proofs.Ytilbffbmpgebmaa.File2
open Go.Proofs.Ytilbffbmpgebmaa.RefBase
open Go.Proofs.Ytilbffbmpgebmaa.RefFiles
open Go.Proofs.Ytilbffbmpgebmaa.RefOps2
open Go.Proofs.Ytilbffbmpgebmaa.Pair
open Go.Proofs.Ytilbffbmpgebmaa.Deeds
open Go.Proofs.Ytilbffbmpgebmaa.LastsM
open Go.Proofs.Ytilbffbmpgebmaa.LastsM2
set_option linter.unusedVariables false

theorem pr_rise {base b bd : Nat} {d : Dk} {n T : Nat} {w : World} (h : Pr base b bd d n T w) : Rise d.names := by
  obtain ⟨r, hr⟩ := h.rd
  exact hr.rn
theorem ls_first {d : Dk} (con : Con d) (j : J d) (ok : Ok d) (rn : Rise d.names) (hst : d.steps < 1099511627776) : ∃ wh, Ls (d.crash 1099511627776 []) d.names wh wh := by
  have hol : d.opens.length < 1099511627776 := by have := ok.llen; omega
  have hw : within 1099511627776 d.opens.length = d.opens.length := by unfold within; omega
  have hl : applyAll (d.opens.take (within 1099511627776 d.opens.length)) d.last = d.names := by rw [hw, List.take_length]; exact con.symm
  refine ⟨d.names.map fun p => (((crashFiles [] 0 d.names d.files)[p.2]?).getD ([], 0)).1, rfl, rfl, rfl, hl, hl, j_names con j, rn, ok.names.keys, by simp, by simp, fun i hi => ?_⟩
  show (crashFiles [] 0 (applyAll (d.opens.take (within 1099511627776 d.opens.length)) d.last) d.files)[(d.names[i]).2]? = _ ∧ _
  rw [hl]
  have hlt := ok.names.ids _ (List.getElem_mem hi)
  have hc := crash_at [] d.names 0 d.files (j_names con j) i hi
  rw [List.getElem?_eq_getElem hlt] at hc
  simp only [List.getElem_map, List.take_length, and_true]
  rw [hc]
  rfl
set_option maxHeartbeats 4000000 in
set_option maxRecDepth 100000 in
theorem play_call (base b : Nat) (v : Value) (l : List DD) (w w0 : World) (hD : DSl w0 v l) (hwt : wts l ≤ 1048576) (h0 : w0.heap.size ≤ base) (hb0 : Below w0.heap.size w0 w) (hd : Has base b new w) :
    Calls Try.prog 12 #[ptr b, v] w fun e w' => e = .returned (.tuple #[]) ∧ (∃ d, Has base b d w' ∧ Iv d l.length (szs l) ∧ J d ∧ Rise d.names) ∧ Below base w w' := by
  obtain ⟨⟨a, cap, rfl, hat⟩, hok⟩ := hD
  have HAT := hid_of hat
  have HOK := hid_of hok
  have hlen : l.length ≤ 1048576 := Nat.le_trans (wts_len l) hwt
  have HWT := hid_of hwt
  have HB0 := hid_of hb0
  have H0 := hid_of h0
  obtain ⟨n, hn⟩ : ∃ n, n = l.length := ⟨_, rfl⟩
  rw [← hn] at hlen ⊢
  have HLN := hid_of hn
  have hbw : base ≤ w.heap.size := by obtain ⟨y, hy⟩ := hd; exact hy.hb
  obtain ⟨bd, hbd⟩ : ∃ bd, bd = w.heap.size := ⟨_, rfl⟩
  obtain ⟨W1, hW1⟩ : ∃ W1, W1 = w.alloc (.cells #[.slice none 0 0, .slice none 0 0, .slice none 0 0, .slice none 0 0, .slice none 0 0, .int .i64 0, .bool false] 31) := ⟨_, rfl⟩
  have bA : Below w.heap.size w W1 := by rw [hW1]; exact (Below.refl _ w).alloc (Nat.le_refl _) _
  have P1 : Hid (Pr base b bd new 0 0 W1) := ⟨hd.below bA, ⟨_, by rw [hW1, hbd]; exact rd_new base w hbw⟩, iv_new⟩
  have B1 : Hid (Below base w W1) := bA.mono hbw
  unfold ptr
  clear hat hok hwt hn hb0 h0 hd bA hbw
  go_enter Try.func12, Try.ntmps12
  go_wp2_with fail
  rw [← hW1, ← hbd]
  clear hW1 hbd
  go_loopg [5] n (fun g si wx => ∃ (k : Nat) (d : Dk), k ≤ n ∧ n ≤ k + g ∧ si = .int .i64 k ∧ Hid (Pr base b bd d k (szs (l.take k)) wx ∧ J d ∧ Below base w wx))
  case atStart => exact ⟨0, new, by omega, by omega, rfl, P1.out, j_new, B1.out⟩
  case round =>
    obtain ⟨k, d, hk, hg, rfl, R⟩ := hrel
    by_cases hlt : k < n
    · obtain ⟨g', rfl⟩ : ∃ g', gk = g' + 1 := ⟨gk - 1, by omega⟩
      have hltl : k < l.length := by rw [← HLN.out]; exact hlt
      obtain ⟨gb, o, rfl, hcc⟩ : ∃ g o, a = some ⟨g, o, none⟩ ∧ ∀ i (h : i < l.length), DCell w0 g (o + i * 7) (l[i]'h) := by
        rcases HAT.out with h | h
        · subst h; cases hltl
        · exact h
      have hc := hcc k hltl
      have hox := HOK.out _ (List.getElem_mem hltl)
      have hwx := Nat.le_trans (wts_mem (List.getElem_mem hltl)) HWT.out
      have hT := Nat.le_trans (szs_all l k) (Nat.le_trans (szs_le l) HWT.out)
      have hT1 := szs_take l k hltl
      obtain ⟨T0, hT0⟩ : ∃ T0, T0 = szs (l.take k) := ⟨_, rfl⟩
      rw [← hT0] at hT hT1 R
      obtain ⟨x, hx⟩ : ∃ x, x = l[k] := ⟨_, rfl⟩
      rw [← hx] at hc hox hwx hT1
      have HT1 := hid_of hT1
      obtain ⟨K, A, B, N, fa, fn, fc, cn, ba, bn, bc, fl, bytes⟩ := x
      have HTE : Hid (szs (l.take (k + 1)) = T0 + B.size) := HT1.out
      have hbr : Below w0.heap.size w0 wr := HB0.out.trans (R.out.2.2.mono H0.out)
      have HQ := hid_of (hc.below hbr)
      have q0 : wr.cell? ⟨gb, o + k * 7, none⟩ = some (.int .i64 K) := HQ.out.c0
      have q1 : wr.cell? ⟨gb, o + k * 7 + 1, none⟩ = some (.string A) := HQ.out.c1
      have q2 : wr.cell? ⟨gb, o + k * 7 + 2, none⟩ = some (.string B) := HQ.out.c2
      have q3 : wr.cell? ⟨gb, o + k * 7 + 3, none⟩ = some (.int .i64 N) := HQ.out.c3
      have q4 : wr.cell? ⟨gb, o + k * 7 + 4, none⟩ = some (.slice fa fn fc) := HQ.out.c4
      have q5 : wr.cell? ⟨gb, o + k * 7 + 5, none⟩ = some (.int .i64 cn) := HQ.out.c5
      have q6 : wr.cell? ⟨gb, o + k * 7 + 6, none⟩ = some (.slice ba bn bc) := HQ.out.c6
      have gi : (k : Int) < (n : Int) := by omega
      have ew : IntKind.i64.wrap ((k : Int) + 1) = (k : Int) + 1 := IntWalk.i64_in _ (by omega)
      obtain ⟨D, hD⟩ : ∃ D, D = doS ⟨K, A, B, N, fa, fn, fc, cn, ba, bn, bc, fl, bytes⟩ d := ⟨_, rfl⟩
      have JD : Hid (J D) := by rw [hD]; exact j_do _ R.out.1.ok R.out.1.iv.con R.out.2.1
      have HDO : Hid (Calls Try.prog 10 #[.pointer (some ⟨b, 0, none⟩), .pointer (some ⟨bd, 0, none⟩), .agg #[.int .i64 K, .string A, .string B, .int .i64 N, .slice fa fn fc, .int .i64 cn, .slice ba bn bc]] wr fun e w' => e = .returned (.bool true) ∧ Pr base b bd D (k + 1) (T0 + B.size) w' ∧ Below base w w') := by
        refine (do_any base b bd d k T0 ⟨K, A, B, N, fa, fn, fc, cn, ba, bn, bc, fl, bytes⟩ wr w0 R.out.1 (by omega) (by omega) hwx hox H0.out hbr).mono ?_
        rintro e w' ⟨h1, h2, h3⟩
        rw [← hD] at h2
        exact ⟨h1, h2, R.out.2.2.trans h3⟩
      clear hc hcc hox hwx hT hT1 hT0 hx HT1 hltl HQ P1 B1 hD hbr
      go_wp2_with fail
      refine HDO.out.mono ?_
      rintro e w5 ⟨rfl, p5, b5⟩
      have P5 := hid_of (And.intro p5 b5)
      clear p5 b5 HDO
      go_wp2_with fail
      go_roundg g'
      case measure => omega
      case rel => exact ⟨k + 1, D, by omega, by omega, by rw [show ((k + 1 : Nat) : Int) = (k : Int) + 1 from by omega], by rw [HTE.out]; exact P5.out.1, JD.out, P5.out.2⟩
    · obtain rfl : k = n := by omega
      have gi : ¬ (k : Int) < (k : Int) := by omega
      have FIN : Hid ((∃ d, Has base b d wr ∧ Iv d k (szs l) ∧ J d ∧ Rise d.names) ∧ Below base w wr) := ⟨⟨d, R.out.1.dk, by have := R.out.1.iv; rw [HLN.out, List.take_length] at this; rw [HLN.out]; exact this, R.out.2.1, pr_rise R.out.1⟩, R.out.2.2⟩
      go_wp2_with fail
      go_end0
      exact ⟨rfl, FIN.out.1, FIN.out.2⟩
end Go.Proofs.Ytilbffbmpgebmaa.Play
