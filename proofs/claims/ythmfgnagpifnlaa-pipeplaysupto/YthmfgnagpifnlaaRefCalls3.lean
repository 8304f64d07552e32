/- The document's Write, CutOff, Accept, Connect. -/
import Derived.Test.YthmfgnagpifnlaaRefCalls2
namespace Go.Proofs.Ythmfgnagpifnlaa.RefCalls3
open Go.RowKit
open Go.Proofs.Ythmfgnagpifnlaa.PipeMath
open Go.Proofs.Ythmfgnagpifnlaa.Base
open Go.Proofs.Ythmfgnagpifnlaa.Queue
open Go.Proofs.Ythmfgnagpifnlaa.Queue2
open Go.Proofs.Ythmfgnagpifnlaa.Calls
open Go.Proofs.Ythmfgnagpifnlaa.Calls3
open Go.Proofs.Ythmfgnagpifnlaa.RefBase
open Go.Proofs.Ythmfgnagpifnlaa.RefCalls
open Go.Proofs.Ythmfgnagpifnlaa.RefCalls2
set_option linter.unusedVariables false

theorem updK {F : Nat → Prop} {b g : Nat} {lv : Value} {xs : List Value} {n : Nt} {w : World} (h : RK F b lv xs n w) (hg : lv.ownBlock = some g) {i : Nat} {k : Cn} (hk : n.cs[i]? = some k) (k' : Cn) (j : Nat) (v : Value) (hj : j < 8)
    (hs : ∀ a, rc k' a = (rc k a).set j v) : RK F b lv (xs.set (i * 8 + j) v) { n with cs := n.cs.set i k' } (w.setCell ⟨g, i * 8 + j, none⟩ v) ∧ Fr F w (w.setCell ⟨g, i * 8 + j, none⟩ v) := by
  have hil : i < n.cs.length := (List.getElem?_eq_some_iff.1 hk).1
  have hi : ∀ k2, ({ n with cs := n.cs.set i k' } : Nt).cs[i]? = some k2 → rc k2 (decide (i < n.acc)) = (rc k (decide (i < n.acc))).set j v := fun k2 hk2 => by
    rw [show ({ n with cs := n.cs.set i k' } : Nt).cs = n.cs.set i k' from rfl, List.getElem?_set_self hil] at hk2
    injection hk2 with hk2
    subst hk2
    exact hs _
  exact h.upd (n' := { n with cs := n.cs.set i k' }) (g := g) hg hk hj (v := v) rfl (by simp) hi (fun i' hi' => ⟨List.getElem?_set_ne (fun e => hi' e.symm), rfl⟩)
section
variable {F : Nat → Prop} {b : Nat} {lv : Value} {xs : List Value} {n : Nt} {w : World}
set_option maxHeartbeats 2000000 in
set_option maxRecDepth 100000 in
theorem rwrite_call (h : RK F b lv xs n w) (ok : Ok n) (c : Int) (s : ByteArray) (hz : ∀ c k, n.at c = some k → k.wrote.length + s.size ≤ 140737488355328) (hs : s.size ≤ 140737488355328) : Calls Try.prog 34 #[ptr b, .int .i64 c, .string s] w fun e w' => e = .returned (.tuple #[.int .i64 (n.write c (bs s)).2.1, .int .i64 (n.write c (bs s)).2.2]) ∧ RHas F b (n.write c (bs s)).1 w' ∧ Fr F w w' := by
  have H1 := hid_of (server_call h c)
  by_cases he : n.serveE c = 0
  · obtain ⟨i, k, rfl, hk, h1⟩ := serve_some he
    have H2 := hid_of (rroom_call h ok (fun c k e => by have := hz c k e; omega) (i : Int))
    obtain ⟨g, cap, r⟩ := h.at hk
    have c1 := r.c1
    have hil : i < n.cs.length := (List.getElem?_eq_some_iff.1 hk).1
    have h0 : (0 : Int) ≤ (i : Int) := by omega
    have h3 : (i : Int) < (n.cs.length : Int) := by omega
    have hw := (ok.at h1).win
    have hzk := hz _ k h1
    have e1 : n.write (i : Int) (bs s) = ({ n with cs := n.cs.set i { k with wrote := k.wrote ++ (bs s).take (n.fit k (bs s)) } }, (n.fit k (bs s) : Int), 0) := by unfold Nt.write; rw [if_pos he, mod_some h1, h1]; rfl
    rw [e1]
    have hT := fit_le n k (bs s)
    rw [len_bs] at hT
    obtain ⟨T, hTe⟩ : ∃ T, T = n.fit k (bs s) := ⟨_, rfl⟩
    obtain ⟨R, hR⟩ : ∃ R, R = n.win - k.left := ⟨_, rfl⟩
    have eR : n.room (i : Int) = (R : Int) := by unfold Nt.room; rw [if_pos he, h1]; show (n.win : Int) - (k.left : Int) = _; omega
    rw [eR] at H2
    have hcase : ((R : Int) < (s.size : Int) ∧ T = R) ∨ (¬ (R : Int) < (s.size : Int) ∧ T = s.size) := by
      rw [hTe, hR]
      unfold Nt.fit
      rw [len_bs]
      omega
    rw [← hTe] at hT ⊢
    obtain ⟨u, hu⟩ : ∃ u, u = s.extract 0 T := ⟨_, rfl⟩
    have hub : bs u = (bs s).take T := by rw [hu, ext_take]
    have hus : u.size = T := by rw [hu]; exact ext_size s T hT
    have hsl := fun W => sl_run s u T hT hub W
    rw [← hub]
    obtain ⟨t, ht⟩ : ∃ t, t = mk k.wrote := ⟨_, rfl⟩
    have htz : t.size + u.size ≤ 140737488355328 := by rw [ht, mk_size]; omega
    have x1 : w.cell? ⟨g, i * 8 + 1, none⟩ = some (.string t) := by rw [ht]; exact r.cell 1 (by omega)
    have f1 := r.fr (i * 8 + 1)
    have HN := hid_of (RK.updCn h hk r { k with wrote := k.wrote ++ bs u } 1 (.string (t ++ u)) (by omega) (fun a => by
      have : mk (k.wrote ++ bs u) = t ++ u := by rw [mk_app, mk_bs, ht]
      unfold rc
      dsimp only
      rw [this]
      rfl))
    rw [he] at H1
    clear h h1 r hk e1 hz he hu hub hus ht hTe hR eR hw hzk hT
    rcases hcase with ⟨hlt, rfl⟩ | ⟨hlt, rfl⟩
    all_goals
      go_enter Try.func34, Try.ntmps34
      go_wp2_with fail
      refine H1.out.mono ?_
      rintro e w1 ⟨rfl, rfl⟩
      go_wp2_with fail
      refine H2.out.mono ?_
      rintro e w2 ⟨rfl, m2, rfl⟩
      go_wp2_with fail
      go_region
      go_wp2_with fail
      go_ret2
      exact ⟨rfl, rlike HN.out.1 ⟨rfl, rfl, rfl, rfl⟩, Lk.fr HN.out.2 ⟨rfl, rfl, rfl, rfl⟩⟩
  · have e1 : n.write c (bs s) = (n, 0, n.serveE c) := by unfold Nt.write; rw [if_neg he]
    rw [e1]
    have g1 : (n.serveE c == 0) = false := by simpa using he
    have H := hid_of h
    clear h he e1 hz
    go_enter Try.func34, Try.ntmps34
    go_wp2_with fail
    refine H1.out.mono ?_
    rintro e w1 ⟨rfl, rfl⟩
    go_wp2_with fail
    go_ret2
    exact ⟨rfl, ⟨_, _, H.out⟩, Fr.refl _ _⟩
set_option maxHeartbeats 2000000 in
set_option maxRecDepth 100000 in
theorem rcut_call (h : RK F b lv xs n w) (ok : Ok n) (c : Int) : Calls Try.prog 31 #[ptr b, .int .i64 c] w fun e w' => e = .returned (.int .i64 (n.cutC c).2) ∧ RHas F b (n.cutC c).1 w' ∧ Fr F w w' := by
  have H1 := hid_of (has_call h c)
  rcases at_cases n c with ⟨h1, h2⟩ | ⟨i, k, rfl, hi, hk, h1⟩
  · rw [h1] at H1
    have e0 : n.wholeE c = 60 := by unfold Nt.wholeE; rw [h1]
    have e1 : n.cutC c = (n, 60) := by unfold Nt.cutC; rw [if_neg (by rw [e0]; decide), e0]
    rw [e1]
    simp only [Option.isSome_none] at H1
    have H := hid_of h
    clear h h1 h2 e1 e0
    go_enter Try.func31, Try.ntmps31
    go_wp2_with fail
    refine H1.out.mono ?_
    rintro e w1 ⟨rfl, rfl⟩
    go_wp2_with fail
    go_ret
    exact ⟨rfl, ⟨_, _, H.out⟩, Fr.refl _ _⟩
  · rw [h1] at H1
    obtain ⟨g, cap, r⟩ := h.at hk
    have c1 := r.c1
    have x7 : w.cell? ⟨g, i * 8 + 7, none⟩ = some (.bool k.cut) := r.cell 7 (by omega)
    have h0 : (0 : Int) ≤ (i : Int) := by omega
    have h3 : (i : Int) < (n.cs.length : Int) := by omega
    simp only [Option.isSome_some] at H1
    have e0 : n.wholeE (i : Int) = if k.cut then 61 else 0 := by unfold Nt.wholeE; rw [h1]
    cases hc : k.cut
    · have e1 : n.cutC (i : Int) = ({ n with cs := n.cs.set i k.off }, 0) := by unfold Nt.cutC; rw [if_pos (by rw [e0, hc]; rfl), mod_some h1]
      rw [e1]
      have htk := (ok.at h1).tk
      obtain ⟨s, hs⟩ : ∃ s, s = mk k.wrote := ⟨_, rfl⟩
      obtain ⟨t, ht⟩ : ∃ t, t = mk (k.wrote.take k.tk) := ⟨_, rfl⟩
      have x1 : w.cell? ⟨g, i * 8 + 1, none⟩ = some (.string s) := by rw [hs]; exact r.cell 1 (by omega)
      have x3 : w.cell? ⟨g, i * 8 + 3, none⟩ = some (.int .i64 k.tk) := r.cell 3 (by omega)
      have f1 := r.fr (i * 8 + 1)
      have f7 := r.fr (i * 8 + 7)
      have hsl := fun W => sl_run s t k.tk (by rw [hs, mk_size]; exact htk) (by rw [ht, hs]; rfl) W
      have hg : lv.ownBlock = some g := by rw [r.lv]; rfl
      obtain ⟨q1, q2⟩ := updK h hg hk { k with cut := true } 7 (.bool true) (by omega) (fun a => rfl)
      obtain ⟨q3, q4⟩ := updK q1 hg (i := i) (k := { k with cut := true }) (by simp [hi]) k.off 1 (.string t) (by omega) (fun a => by rw [ht]; rfl)
      have HN : Hid (RHas F b { n with cs := n.cs.set i k.off } ((w.setCell ⟨g, i * 8 + 7, none⟩ (.bool true)).setCell ⟨g, i * 8 + 1, none⟩ (.string t)) ∧ Fr F w ((w.setCell ⟨g, i * 8 + 7, none⟩ (.bool true)).setCell ⟨g, i * 8 + 1, none⟩ (.string t))) := by
        refine ⟨⟨lv, (xs.set (i * 8 + 7) (.bool true)).set (i * 8 + 1) (.string t), ?_⟩, q2.trans (q4.mono fun _ _ e => Or.inl e)⟩
        have e2 : ({ ({ n with cs := n.cs.set i { k with cut := true } } : Nt) with cs := (n.cs.set i { k with cut := true }).set i k.off } : Nt) = { n with cs := n.cs.set i k.off } := by simp
        rw [← e2]
        exact q3
      rw [hc] at x7
      clear h h1 r hk e1 e0 hs ht htk hc q1 q2 q3 q4 hg
      go_enter Try.func31, Try.ntmps31
      go_wp2_with fail
      refine H1.out.mono ?_
      rintro e w1 ⟨rfl, rfl⟩
      go_wp2_with fail
      go_region
      go_wp2_with fail
      go_ret
      exact ⟨rfl, rlike HN.out.1 ⟨rfl, rfl, rfl, rfl⟩, Lk.fr HN.out.2 ⟨rfl, rfl, rfl, rfl⟩⟩
    · have e1 : n.cutC (i : Int) = (n, 61) := by unfold Nt.cutC; rw [if_neg (by rw [e0, hc]; decide), e0, hc]; rfl
      rw [e1]
      rw [hc] at x7
      have H := hid_of h
      clear h h1 r hk e1 e0 hc
      go_enter Try.func31, Try.ntmps31
      go_wp2_with fail
      refine H1.out.mono ?_
      rintro e w1 ⟨rfl, rfl⟩
      go_wp2_with fail
      go_ret
      exact ⟨rfl, ⟨_, _, H.out⟩, Fr.refl _ _⟩
set_option maxHeartbeats 2000000 in
set_option maxRecDepth 100000 in
theorem raccept_call (h : RK F b lv xs n w) (ok : Ok n) : Calls Try.prog 32 #[ptr b] w fun e w' => e = .returned (.tuple #[.int .i64 n.accept.2.1, .bool n.accept.2.2]) ∧ RHas F b n.accept.1 w' ∧ Fr F w w' := by
  have hac := ok.acc
  have hlen := ok.len
  have H := hid_of h
  have c1 : w.cell? ⟨b, 1, none⟩ = some lv := Lib.cell_of_heap h.net 1
  obtain ⟨a, cp, hv⟩ := row_shape h.row
  rw [hv] at c1
  have HV := hid_of hv
  clear h hv
  go_enter Try.func32, Try.ntmps32
  go_wp2_with fail
  go_loopg [4] n.cs.length (fun gg s4 wx => ∃ j : Nat, j ≤ n.acc ∧ n.cs.length ≤ j + gg ∧ s4 = .int .i64 j ∧ wx = w)
  case atStart => exact ⟨0, by omega, by omega, rfl, rfl⟩
  case round =>
    obtain ⟨j, hj, hg, rfl, rfl⟩ := hrel
    by_cases hlt : j < n.cs.length
    · obtain ⟨g', rfl⟩ : ∃ g', gk = g' + 1 := ⟨gk - 1, by omega⟩
      have hk : n.cs[j]? = some n.cs[j] := List.getElem?_eq_getElem hlt
      obtain ⟨g, cap, r⟩ := H.out.at hk
      have e0 : (Value.slice a n.cs.length cp) = .slice (some ⟨g, 0, none⟩) n.cs.length cap := by rw [← HV.out, r.lv]
      injection e0 with e01 _ e02
      subst e01
      subst e02
      have x4 := r.cell 4 (by omega)
      have x4' : wr.cell? ⟨g, j * 8 + 4, none⟩ = some (.bool (decide (j < n.acc))) := x4
      have f4 := r.fr (j * 8 + 4)
      have h0 : (0 : Int) ≤ (j : Int) := by omega
      have h3 : (j : Int) < (n.cs.length : Int) := by omega
      have R := hid_of r
      clear r x4
      by_cases ha : j < n.acc
      · rw [decide_eq_true ha] at x4'
        go_wp2_with fail
        go_roundg g'
        case measure => omega
        case rel => exact ⟨j + 1, by omega, by omega, by simp, rfl⟩
      · obtain rfl : j = n.acc := by omega
        rw [decide_eq_false ha] at x4'
        have e1 : n.accept = ({ n with acc := n.acc + 1 }, (n.acc : Int), true) := by unfold Nt.accept; rw [if_neg (by omega)]
        have HN := hid_of (H.out.upd (n' := { n with acc := n.acc + 1 }) (g := g) (by rw [R.out.lv]; rfl) (i := n.acc) (j := 4) (v := .bool true) hk (by omega) rfl rfl (fun k' hk' => by
          have hk2 : n.cs[n.acc]? = some k' := hk'
          rw [hk] at hk2
          injection hk2 with hk2
          rw [← hk2]
          show rc _ (decide (n.acc < n.acc + 1)) = _
          rw [decide_eq_true (Nat.lt_succ_self _)]
          rfl) (fun i' hi' => ⟨rfl, by
            show decide (i' < n.acc + 1) = decide (i' < n.acc)
            by_cases hq : i' < n.acc
            · rw [decide_eq_true hq, decide_eq_true (by omega)]
            · rw [decide_eq_false hq, decide_eq_false (by omega)]⟩))
        have E := hid_of e1
        clear e1 ha
        go_wp2_with fail
        go_ret2
        rw [E.out]
        exact ⟨rfl, ⟨_, _, HN.out.1⟩, HN.out.2⟩
    · obtain rfl : j = n.cs.length := by omega
      have h3 : ¬ (n.cs.length : Int) < (n.cs.length : Int) := by omega
      have e1 : n.accept = (n, 0, false) := by unfold Nt.accept; rw [if_pos (by omega)]
      have E := hid_of e1
      clear e1
      go_wp2_with fail
      go_ret2
      rw [E.out]
      exact ⟨rfl, ⟨_, _, H.out⟩, Fr.refl _ _⟩
end
end Go.Proofs.Ythmfgnagpifnlaa.RefCalls3
