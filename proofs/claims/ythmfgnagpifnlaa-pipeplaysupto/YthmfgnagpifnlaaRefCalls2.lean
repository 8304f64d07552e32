/- The document's Take, Read, Write, CutOff. -/
import Derived.Test.YthmfgnagpifnlaaRefCalls
namespace Go.Proofs.Ythmfgnagpifnlaa.RefCalls2
open Go.RowKit
open Go.Proofs.Ythmfgnagpifnlaa.PipeMath
open Go.Proofs.Ythmfgnagpifnlaa.Base
open Go.Proofs.Ythmfgnagpifnlaa.Queue
open Go.Proofs.Ythmfgnagpifnlaa.Queue2
open Go.Proofs.Ythmfgnagpifnlaa.Calls
open Go.Proofs.Ythmfgnagpifnlaa.Calls3
open Go.Proofs.Ythmfgnagpifnlaa.RefBase
open Go.Proofs.Ythmfgnagpifnlaa.RefCalls
set_option linter.unusedVariables false

theorem sl2_run (s t : ByteArray) (x z : Nat) (hx : x ≤ z) (hz : z ≤ s.size) (ht : bs t = ((bs s).drop x).take (z - x)) (W : World) : (Instr.slice 9 (.string s) (some (.int .i64 (x : Int))) (some (.int .i64 (z : Int))) none).run Try.prog W = .ok (.string t) W := by
  rw [run_slice_string_if (P := Try.prog) (w := W) 9 s .i64 .i64 (x : Int) (z : Int) Try.underlying9, if_pos (by omega), if_pos (by omega)]
  show Result.ok (Value.string (s.extract ((x : Int)).toNat ((z : Int)).toNat)) W = _
  rw [Int.toNat_natCast, Int.toNat_natCast, of_bs (a := s.extract x z) (b := t) ?_]
  rw [ht]
  unfold bs
  rw [ByteArray.data_extract]
  simp
section
variable {F : Nat → Prop} {b : Nat} {lv : Value} {xs : List Value} {n : Nt} {w : World}
set_option maxHeartbeats 2000000 in
set_option maxRecDepth 100000 in
theorem rtake_call (h : RK F b lv xs n w) (ok : Ok n) (c m : Int) (hz : ∀ k, n.at c = some k → k.wrote.length ≤ 140737488355328) : Calls Try.prog 29 #[ptr b, .int .i64 c, .int .i64 m] w fun e w' => e = .returned (.tuple #[.string (mk (n.take c m).2.1), .int .i64 (n.take c m).2.2]) ∧ RHas F b (n.take c m).1 w' ∧ Fr F w w' := by
  have H1 := hid_of (has_call h c)
  rcases at_cases n c with ⟨h1, h2⟩ | ⟨i, k, rfl, hi, hk, h1⟩
  · rw [h1] at H1
    have e0 : n.wholeE c = 60 := by unfold Nt.wholeE; rw [h1]
    have e1 : n.take c m = (n, [], 60) := by unfold Nt.take; rw [if_neg (by rw [e0]; decide), e0]
    rw [e1]
    simp only [Option.isSome_none] at H1
    have H := hid_of h
    clear h h1 h2 e1 e0
    go_enter Try.func29, Try.ntmps29
    go_wp2_with fail
    refine H1.out.mono ?_
    rintro e w1 ⟨rfl, rfl⟩
    go_wp2_with fail
    go_ret2
    exact ⟨rfl, ⟨_, _, H.out⟩, Fr.refl _ _⟩
  · rw [h1] at H1
    obtain ⟨g, cap, r⟩ := h.at hk
    have c1 := r.c1
    have x7 : w.cell? ⟨g, i * 8 + 7, none⟩ = some (.bool k.cut) := r.cell 7 (by omega)
    have h0 : (0 : Int) ≤ (i : Int) := by omega
    have h3 : (i : Int) < (n.cs.length : Int) := by omega
    simp only [Option.isSome_some] at H1
    have e0 : n.wholeE (i : Int) = if k.cut then 61 else 0 := by unfold Nt.wholeE; rw [h1]
    cases hc : k.cut
    · have e1 : n.take (i : Int) m = ({ n with cs := n.cs.set i (k.took m) }, k.takes m, 0) := by unfold Nt.take; rw [if_pos (by rw [e0, hc]; rfl), mod_some h1, h1]; rfl
      rw [e1]
      rw [hc] at x7
      have htk := (ok.at h1).tk
      have hzk := hz k h1
      have hcl := cl_le m (k.wrote.length - k.tk)
      obtain ⟨s, hs⟩ : ∃ s, s = mk k.wrote := ⟨_, rfl⟩
      have hsz : s.size = k.wrote.length := by rw [hs, mk_size]
      have x1 : w.cell? ⟨g, i * 8 + 1, none⟩ = some (.string s) := by rw [hs]; exact r.cell 1 (by omega)
      have x3 : w.cell? ⟨g, i * 8 + 3, none⟩ = some (.int .i64 k.tk) := r.cell 3 (by omega)
      have f3 := r.fr (i * 8 + 3)
      obtain ⟨D, hD⟩ : ∃ D, D = k.wrote.length - k.tk := ⟨_, rfl⟩
      rw [← hD] at hcl
      obtain ⟨K, hK⟩ : ∃ K, K = cl m D := ⟨_, rfl⟩
      rw [← hK] at hcl
      have g1 : IntKind.i64.wrap ((s.size : Int) - (k.tk : Int)) = (D : Int) := by rw [IntWalk.i64_in _ (by omega), hD]; omega
      obtain ⟨X, hX⟩ : ∃ X : Int, (if (D : Int) < m then (D : Int) else m) = X := ⟨_, rfl⟩
      have hY : (if 0 < X then X else 0) = (K : Int) := by
        rw [hK, ← hX]
        unfold cl
        split <;> split <;> omega
      obtain ⟨N, hN⟩ : ∃ N, N = k.tk + K := ⟨_, rfl⟩
      have g2 : IntKind.i64.wrap ((k.tk : Int) + (K : Int)) = (N : Int) := by rw [IntWalk.i64_in _ (by omega), hN]; omega
      obtain ⟨t, ht⟩ : ∃ t, t = mk (k.takes m) := ⟨_, rfl⟩
      have hsl := fun W => sl2_run s t k.tk N (by omega) (by omega) (by rw [ht, hs, hN, Nat.add_sub_cancel_left, hK, hD]; rfl) W
      have HN := hid_of (RK.updCn h hk r (k.took m) 3 (.int .i64 (N : Int)) (by omega) (fun a => by
        have : (k.took m).tk = N := by rw [hN, hK, hD]; rfl
        unfold rc
        rw [this]
        rfl))
      rw [← ht]
      clear h h1 r hk e1 e0 hs hsz hD hK hN ht htk hzk hcl hz hc
      go_enter Try.func29, Try.ntmps29
      go_wp2_with fail
      refine H1.out.mono ?_
      rintro e w1 ⟨rfl, rfl⟩
      go_wp2_with fail
      go_region
      go_wp2_with fail
      go_quiet (fail)
      go_wp2_with fail
      go_ret2
      exact ⟨rfl, rlike HN.out.1 ⟨rfl, rfl, rfl, rfl⟩, Lk.fr HN.out.2 ⟨rfl, rfl, rfl, rfl⟩⟩
    · have e1 : n.take (i : Int) m = (n, [], 61) := by unfold Nt.take; rw [if_neg (by rw [e0, hc]; decide), e0, hc]; rfl
      rw [e1]
      rw [hc] at x7
      have H := hid_of h
      clear h h1 r hk e1 e0 hz hc
      go_enter Try.func29, Try.ntmps29
      go_wp2_with fail
      refine H1.out.mono ?_
      rintro e w1 ⟨rfl, rfl⟩
      go_wp2_with fail
      go_ret2
      exact ⟨rfl, ⟨_, _, H.out⟩, Fr.refl _ _⟩
set_option maxHeartbeats 4000000 in
set_option maxRecDepth 100000 in
theorem rread_call (h : RK F b lv xs n w) (ok : Ok n) (c m : Int) (hz : ∀ k, n.at c = some k → k.sent.length ≤ 140737488355328) : Calls Try.prog 33 #[ptr b, .int .i64 c, .int .i64 m] w fun e w' => e = .returned (.tuple #[.string (mk (n.read c m).2.1), .bool (n.read c m).2.2.1, .int .i64 (n.read c m).2.2.2]) ∧ RHas F b (n.read c m).1 w' ∧ Fr F w w' := by
  have H1 := hid_of (server_call h c)
  by_cases he : n.serveE c = 0
  · obtain ⟨i, k, rfl, hk, h1⟩ := serve_some he
    obtain ⟨g, cap, r⟩ := h.at hk
    have c1 := r.c1
    have hil : i < n.cs.length := (List.getElem?_eq_some_iff.1 hk).1
    have h0 : (0 : Int) ≤ (i : Int) := by omega
    have h3 : (i : Int) < (n.cs.length : Int) := by omega
    have e1 : n.read (i : Int) m = ({ n with cs := n.cs.set i (k.readOn m) }, k.reads m, k.ended && decide ((k.readOn m).unread = 0), 0) := by unfold Nt.read; rw [if_pos he, mod_some h1, h1]; rfl
    rw [e1]
    have htk := (ok.at h1).rd
    have hzk := hz k h1
    have hcl := cl_le m (k.sent.length - k.rd)
    obtain ⟨s, hs⟩ : ∃ s, s = mk k.sent := ⟨_, rfl⟩
    have hsz : s.size = k.sent.length := by rw [hs, mk_size]
    have x0 : w.cell? ⟨g, i * 8, none⟩ = some (.string s) := by rw [hs]; exact r.cell 0 (by omega)
    have x2 : w.cell? ⟨g, i * 8 + 2, none⟩ = some (.int .i64 k.rd) := r.cell 2 (by omega)
    have x5 : w.cell? ⟨g, i * 8 + 5, none⟩ = some (.bool k.ended) := r.cell 5 (by omega)
    have f2 := r.fr (i * 8 + 2)
    obtain ⟨D, hD⟩ : ∃ D, D = k.sent.length - k.rd := ⟨_, rfl⟩
    rw [← hD] at hcl
    obtain ⟨K, hK⟩ : ∃ K, K = cl m D := ⟨_, rfl⟩
    rw [← hK] at hcl
    have g1 : IntKind.i64.wrap ((s.size : Int) - (k.rd : Int)) = (D : Int) := by rw [IntWalk.i64_in _ (by omega), hD]; omega
    obtain ⟨X, hX⟩ : ∃ X : Int, (if (D : Int) < m then (D : Int) else m) = X := ⟨_, rfl⟩
    have hY : (if 0 < X then X else 0) = (K : Int) := by
      rw [hK, ← hX]
      unfold cl
      split <;> split <;> omega
    obtain ⟨N, hN⟩ : ∃ N, N = k.rd + K := ⟨_, rfl⟩
    have g2 : IntKind.i64.wrap ((k.rd : Int) + (K : Int)) = (N : Int) := by rw [IntWalk.i64_in _ (by omega), hN]; omega
    obtain ⟨t, ht⟩ : ∃ t, t = mk (k.reads m) := ⟨_, rfl⟩
    have hsl := fun W => sl2_run s t k.rd N (by omega) (by omega) (by rw [ht, hs, hN, Nat.add_sub_cancel_left, hK, hD]; rfl) W
    have hrd : (k.readOn m).rd = N := by rw [hN, hK, hD]; rfl
    have HN := hid_of (RK.updCn h hk r (k.readOn m) 2 (.int .i64 (N : Int)) (by omega) (fun a => by
      unfold rc
      rw [hrd]
      rfl))
    have hun : decide ((k.readOn m).unread = 0) = decide (N = s.size) := by
      have : (k.readOn m).unread = k.sent.length - (k.readOn m).rd := rfl
      rw [this, hrd]
      by_cases hq : N = s.size
      · rw [decide_eq_true hq, decide_eq_true (by omega)]
      · rw [decide_eq_false hq, decide_eq_false (by omega)]
    rw [← ht, hun]
    rw [he] at H1
    clear h h1 r hk e1 hs hsz hD hK hN ht htk hzk hcl hz he hun hrd
    cases hen : k.ended
    · rw [hen] at x5
      clear hen
      go_enter Try.func33, Try.ntmps33
      go_wp2_with fail
      refine H1.out.mono ?_
      rintro e w1 ⟨rfl, rfl⟩
      go_wp2_with fail
      go_region
      go_wp2_with fail
      go_quiet (fail)
      go_wp2_with fail
      go_quiet (fail)
      go_wp2_with fail
      refine bodyPost_ret (v := .tuple #[.string t, .bool false, .int .i64 0]) (by simp [results, Try.results33, go_sem]) rfl ⟨rfl, rlike HN.out.1 ⟨rfl, rfl, rfl, rfl⟩, Lk.fr HN.out.2 ⟨rfl, rfl, rfl, rfl⟩⟩
    · rw [hen] at x5
      clear hen
      by_cases hq : N = s.size
      · have q1 : ((N : Int) == (s.size : Int)) = true := by simp [hq]
        have q2 : (N == s.size) = true := by simp [hq]
        rw [decide_eq_true hq]
        clear hq
        go_enter Try.func33, Try.ntmps33
        go_wp2_with fail
        refine H1.out.mono ?_
        rintro e w1 ⟨rfl, rfl⟩
        go_wp2_with fail
        go_region
        go_wp2_with fail
        go_quiet (fail)
        go_wp2_with fail
        go_quiet (fail)
        go_wp2_with fail
        refine bodyPost_ret (v := .tuple #[.string t, .bool true, .int .i64 0]) (by simp [results, Try.results33, go_sem]) rfl ⟨rfl, rlike HN.out.1 ⟨rfl, rfl, rfl, rfl⟩, Lk.fr HN.out.2 ⟨rfl, rfl, rfl, rfl⟩⟩
      · have q1 : ((N : Int) == (s.size : Int)) = false := by
          have : ¬ (N : Int) = (s.size : Int) := by omega
          simpa using this
        have q2 : (N == s.size) = false := by simpa using hq
        rw [decide_eq_false hq]
        clear hq
        go_enter Try.func33, Try.ntmps33
        go_wp2_with fail
        refine H1.out.mono ?_
        rintro e w1 ⟨rfl, rfl⟩
        go_wp2_with fail
        go_region
        go_wp2_with fail
        go_quiet (fail)
        go_wp2_with fail
        go_quiet (fail)
        go_wp2_with fail
        refine bodyPost_ret (v := .tuple #[.string t, .bool false, .int .i64 0]) (by simp [results, Try.results33, go_sem]) rfl ⟨rfl, rlike HN.out.1 ⟨rfl, rfl, rfl, rfl⟩, Lk.fr HN.out.2 ⟨rfl, rfl, rfl, rfl⟩⟩
  · have e1 : n.read c m = (n, [], false, n.serveE c) := by unfold Nt.read; rw [if_neg he]
    rw [e1]
    have g1 : (n.serveE c == 0) = false := by simpa using he
    have H := hid_of h
    clear h he e1 hz
    go_enter Try.func33, Try.ntmps33
    go_wp2_with fail
    refine H1.out.mono ?_
    rintro e w1 ⟨rfl, rfl⟩
    go_wp2_with fail
    refine bodyPost_ret (v := .tuple #[.string (mk []), .bool false, .int .i64 (n.serveE c)]) (by simp [results, Try.results33, go_sem, mk]) rfl ⟨rfl, ⟨_, _, H.out⟩, Fr.refl _ _⟩
end
end Go.Proofs.Ythmfgnagpifnlaa.RefCalls2
