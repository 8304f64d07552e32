/- The document's reader: a number, a text. -/
import Derived.Test.YtdcnkdkhanmklaaRd
namespace Go.Proofs.Ytdcnkdkhanmklaa.RRd
open Go.RowKit Go.Maps
open Go.Proofs.Ytdcnkdkhanmklaa.SetMath
open Go.Proofs.Ytdcnkdkhanmklaa.BytesMath
open Go.Proofs.Ytdcnkdkhanmklaa.ValueMath
open Go.Proofs.Ytdcnkdkhanmklaa.ReadMath
open Go.Proofs.Ytdcnkdkhanmklaa.Base
open Go.Proofs.Ytdcnkdkhanmklaa.Vals
open Go.Proofs.Ytdcnkdkhanmklaa.Rdr
set_option linter.unusedVariables false
set_option linter.unusedSimpArgs false
/- the reader at block b over the text S: what is left, and whether it has failed -/
def RR (b : Nat) (S : Bs) (s : RS) (w : World) : Prop := ∃ k : Nat, k ≤ S.length ∧ s.1 = S.drop k ∧ w.heap[b]? = some (.cells #[.string (mk S), .int .i64 (k : Int), .bool s.2] 78 (0, 0))
theorem rr_lt {b : Nat} {S : Bs} {s : RS} {w : World} (h : RR b S s w) : b < w.heap.size := by
  obtain ⟨k, _, _, h⟩ := h
  exact lt_of h
theorem rr_keep {b : Nat} {S : Bs} {s : RS} {w w' : World} (h : RR b S s w) (hk : w'.heap[b]? = w.heap[b]?) : RR b S s w' := by
  obtain ⟨k, h1, h2, h3⟩ := h
  exact ⟨k, h1, h2, hk.trans h3⟩
theorem cut_two (l : Bs) (i j : Nat) (x y : Int) (hx : x = (i : Int)) (hy : y = (j : Int)) (hij : i ≤ j) (hj : j ≤ l.length) (w : World) :
    (Instr.slice 9 (.string (mk l)) (some (.int .i64 x)) (some (.int .i64 y)) none).run Try.prog w = .ok (.string (mk ((l.drop i).take (j - i)))) w := by
  subst hx; subst hy
  have e : bs ((mk l).extract i j) = (l.drop i).take (j - i) := by unfold bs mk; simp [List.extract_eq_take_drop]
  rw [run_slice_string_if (P := Try.prog) (w := w) 9 (mk l) .i64 .i64 (i : Int) (j : Int) Try.underlying9, if_pos ⟨by omega, by rw [mk_size]; omega⟩, if_pos ⟨by omega, by omega⟩]
  rw [← e, mk_bs]
  rfl
theorem fr_q {b i n : Nat} {w : World} (v : Value) : Fr (At b) w ((w.drewN n).setCell ⟨b, i, none⟩ v) := fr_go ((Fr.refl (At b) w).drewN n) (Fr.set (F := At b) rfl _)
theorem fr_qq {b i n m : Nat} {w : World} (v : Value) : Fr (At b) w (((w.drewN n).drewN m).setCell ⟨b, i, none⟩ v) := fr_go (((Fr.refl (At b) w).drewN n).drewN m) (Fr.set (F := At b) rfl _)
set_option maxHeartbeats 1000000 in
set_option maxRecDepth 100000 in
theorem number_call (b n : Nat) (S : Bs) (s : RS) (w : World) (h : RR b S s w) (hl : S.length ≤ 140737488355328) (hn8 : n ≤ 8) :
    Calls Try.prog 38 #[ptr b, .int .i64 n] w fun e w' => e = .returned (.int .u64 (nbS n s).1) ∧ RR b S (nbS n s).2 w' ∧ Fr (At b) w w' := by
  obtain ⟨k, hk, hs, h⟩ := h
  obtain ⟨r, f⟩ := s
  simp only at hs h
  subst hs
  obtain ⟨⟨c0, c1, c2⟩, z⟩ := box3 h
  have z1 := z 1
  have z2 := z 2
  have HD := hid_of h
  have hm := mk_size S
  have hlen : (S.drop k).length = S.length - k := List.length_drop
  have HU := hid_of fun W => Unfix.runfix_any (mk ((S.drop k).take n)) W
  rw [unN_V] at HU
  clear h z
  cases f
  · by_cases hn : (S.drop k).length < n
    · have e : nbS n (S.drop k, false) = (0, S.drop k, true) := by unfold nbS; rw [tk_no false hn]; rfl
      rw [e]
      have HF : Hid (RR b S (S.drop k, true) (w.setCell ⟨b, 2, none⟩ (.bool true))) := hid_of ⟨k, hk, rfl, set_at (i := 2) HD.out (.bool true)⟩
      have q0 : IntKind.i64.wrap (((mk S).size : Int) - (k : Int)) = ((mk S).size : Int) - (k : Int) := IntWalk.i64_in _ (by omega)
      have q1 : decide (((mk S).size : Int) - (k : Int) < (n : Int)) = true := decide_eq_true (by rw [hm]; omega)
      clear hm hn hlen e HU HD
      generalize mk S = X at *
      go_enter Try.func38, Try.ntmps38
      go_wp2_with fail
      go_quiet (fail)
      go_wp2_with fail
      go_ret
      exact ⟨rfl, HF.out, fr_q _⟩
    · have e : nbS n (S.drop k, false) = (unN ((S.drop k).take n), S.drop (k + n), false) := by unfold nbS; rw [tk_ok (by omega)]; simp only [List.drop_drop]
      rw [e]
      have HF : Hid (RR b S (S.drop (k + n), false) (w.setCell ⟨b, 1, none⟩ (.int .i64 ((k : Int) + (n : Int))))) := hid_of ⟨k + n, by omega, rfl, by
        have := set_at (i := 1) HD.out (.int .i64 ((k : Int) + (n : Int)))
        simpa using this⟩
      have q0 : IntKind.i64.wrap (((mk S).size : Int) - (k : Int)) = ((mk S).size : Int) - (k : Int) := IntWalk.i64_in _ (by omega)
      have q1 : decide (((mk S).size : Int) - (k : Int) < (n : Int)) = false := decide_eq_false (by rw [hm]; omega)
      have q2 : IntKind.i64.wrap ((k : Int) + (n : Int)) = (k : Int) + (n : Int) := IntWalk.i64_in _ (by omega)
      have s1 := cut_two S k (k + n) (k : Int) ((k : Int) + (n : Int)) rfl (by omega) (by omega) (by omega)
      rw [show k + n - k = n by omega] at s1
      simp only
      clear hm hn hlen e HD
      generalize unN ((S.drop k).take n) = N at *
      generalize mk ((S.drop k).take n) = T at *
      generalize unfE T = E at *
      generalize mk S = X at *
      go_enter Try.func38, Try.ntmps38
      go_wp2_with fail
      go_quiet (fail)
      go_wp2_with fail
      go_quiet (first | exact (HU.out _).mono fun _ _ h => ⟨h.1, _, h.2⟩)
      go_wp2_with fail
      go_ret
      exact ⟨rfl, HF.out, fr_q _⟩
  · rw [nb_bad]
    have HF : Hid (RR b S (S.drop k, true) (w.setCell ⟨b, 2, none⟩ (.bool true))) := hid_of ⟨k, hk, rfl, set_at (i := 2) HD.out (.bool true)⟩
    clear hm hlen HU HD
    generalize mk S = X at *
    go_enter Try.func38, Try.ntmps38
    go_wp2_with fail
    go_quiet (fail)
    go_wp2_with fail
    go_ret
    exact ⟨rfl, HF.out, fr_q _⟩
theorem tx_def (s : RS) : txS s = tkS (nbS 4 s).1 (nbS 4 s).2 := rfl
set_option maxHeartbeats 1000000 in
set_option maxRecDepth 100000 in
theorem text_call (b : Nat) (S : Bs) (s : RS) (w : World) (h : RR b S s w) (hl : S.length ≤ 140737488355328) :
    Calls Try.prog 39 #[ptr b] w fun e w' => e = .returned (.string (mk (txS s).1)) ∧ RR b S (txS s).2 w' ∧ Fr (At b) w w' := by
  have HN := hid_of (number_call b 4 S s w h hl (by decide))
  have hlt := nb_lt 4 s (by decide)
  rw [tx_def]
  have hb : IntKind.i64.wrap ((nbS 4 s).1 : Int) = ((nbS 4 s).1 : Int) := IntWalk.i64_in _ (by omega)
  have hm := mk_size S
  generalize (nbS 4 s).1 = N at *
  obtain ⟨⟨r, f⟩, hrf⟩ : ∃ q, q = (nbS 4 s).2 := ⟨_, rfl⟩
  rw [← hrf] at HN ⊢
  clear h hrf
  cases f
  · by_cases hn : r.length < N
    · rw [tk_no false hn]
      simp only
      go_enter Try.func39, Try.ntmps39
      go_wp2_with fail
      refine HN.out.mono ?_
      rintro e w1 ⟨rfl, d1, f1⟩
      obtain ⟨k, hk, hs, d1⟩ := d1
      simp only at hs d1
      obtain ⟨⟨c0, c1, c2⟩, z⟩ := box3 d1
      have z1 := z 1
      have z2 := z 2
      have F1 := hid_of f1
      have hlen : (S.drop k).length = S.length - k := List.length_drop
      subst hs
      have HF : Hid (RR b S (S.drop k, true) (w1.setCell ⟨b, 2, none⟩ (.bool true))) := hid_of ⟨k, hk, rfl, set_at (i := 2) d1 (.bool true)⟩
      have q0 : IntKind.i64.wrap (((mk S).size : Int) - (k : Int)) = ((mk S).size : Int) - (k : Int) := IntWalk.i64_in _ (by omega)
      have q1 : decide (((mk S).size : Int) - (k : Int) < (N : Int)) = true := decide_eq_true (by rw [hm]; omega)
      clear hm hn hlen d1 f1 z HN
      generalize mk S = X at *
      go_wp2_with fail
      go_quiet (fail)
      go_wp2_with fail
      go_ret
      exact ⟨rfl, HF.out, fr_go F1.out (fr_q _)⟩
    · rw [tk_ok (by omega)]
      simp only
      go_enter Try.func39, Try.ntmps39
      go_wp2_with fail
      refine HN.out.mono ?_
      rintro e w1 ⟨rfl, d1, f1⟩
      obtain ⟨k, hk, hs, d1⟩ := d1
      simp only at hs d1
      obtain ⟨⟨c0, c1, c2⟩, z⟩ := box3 d1
      have z1 := z 1
      have z2 := z 2
      have F1 := hid_of f1
      have hlen : (S.drop k).length = S.length - k := List.length_drop
      subst hs
      have HF : Hid (RR b S ((S.drop k).drop N, false) (w1.setCell ⟨b, 1, none⟩ (.int .i64 ((k : Int) + (N : Int))))) := hid_of ⟨k + N, by omega, by simp, by
        have := set_at (i := 1) d1 (.int .i64 ((k : Int) + (N : Int)))
        simpa using this⟩
      have q0 : IntKind.i64.wrap (((mk S).size : Int) - (k : Int)) = ((mk S).size : Int) - (k : Int) := IntWalk.i64_in _ (by omega)
      have q1 : decide (((mk S).size : Int) - (k : Int) < (N : Int)) = false := decide_eq_false (by rw [hm]; omega)
      have q2 : IntKind.i64.wrap ((k : Int) + (N : Int)) = (k : Int) + (N : Int) := IntWalk.i64_in _ (by omega)
      have q3 : IntKind.i64.wrap ((k : Int) + (N : Int) - (N : Int)) = (k : Int) := by rw [show (k : Int) + (N : Int) - (N : Int) = (k : Int) by omega]; exact IntWalk.i64_in _ (by omega)
      have q4 : (k : Int) + (N : Int) - (N : Int) = (k : Int) := by omega
      have s1 := cut_two S k (k + N) (k : Int) ((k : Int) + (N : Int)) rfl (by omega) (by omega) (by omega)
      rw [show k + N - k = N by omega] at s1
      obtain ⟨T, hT⟩ : ∃ T, T = mk ((S.drop k).take N) := ⟨_, rfl⟩
      rw [← hT] at s1
      have HT := hid_of hT
      clear hm hn hlen d1 f1 z HN hT
      generalize mk S = X at *
      go_wp2_with fail
      go_quiet (fail)
      go_wp2_with fail
      go_quiet (fail)
      go_wp2_with fail
      go_ret
      exact ⟨by show Ending.returned (Value.string T) = _; rw [HT.out], HF.out, fr_go F1.out ((fr_q _).drewN _)⟩
  · rw [tk_bad]
    simp only
    go_enter Try.func39, Try.ntmps39
    go_wp2_with fail
    refine HN.out.mono ?_
    rintro e w1 ⟨rfl, d1, f1⟩
    obtain ⟨k, hk, hs, d1⟩ := d1
    simp only at hs d1
    obtain ⟨⟨c0, c1, c2⟩, z⟩ := box3 d1
    have z1 := z 1
    have z2 := z 2
    have F1 := hid_of f1
    have hlen : (S.drop k).length = S.length - k := List.length_drop

    subst hs
    have HF : Hid (RR b S (S.drop k, true) (w1.setCell ⟨b, 2, none⟩ (.bool true))) := hid_of ⟨k, hk, rfl, set_at (i := 2) d1 (.bool true)⟩
    clear hm hlen d1 f1 z HN
    generalize mk S = X at *
    go_wp2_with fail
    go_quiet (fail)
    go_wp2_with fail
    go_ret
    exact ⟨rfl, HF.out, fr_go F1.out (fr_q _)⟩
end Go.Proofs.Ytdcnkdkhanmklaa.RRd
