/- The document's Sent, Taken, Room, End, Close, Send. -/
import Derived.Test.YthmfgnagpifnlaaRefBase
namespace Go.Proofs.Ythmfgnagpifnlaa.RefCalls
open Go.RowKit
open Go.Proofs.Ythmfgnagpifnlaa.PipeMath
open Go.Proofs.Ythmfgnagpifnlaa.Base
open Go.Proofs.Ythmfgnagpifnlaa.Queue
open Go.Proofs.Ythmfgnagpifnlaa.Queue2
open Go.Proofs.Ythmfgnagpifnlaa.Calls
open Go.Proofs.Ythmfgnagpifnlaa.Calls3
open Go.Proofs.Ythmfgnagpifnlaa.RefBase
set_option linter.unusedVariables false

theorem RK.updCn {F : Nat → Prop} {b g cap : Nat} {lv : Value} {xs : List Value} {n : Nt} {w : World} (h : RK F b lv xs n w) {i : Nat} {k : Cn} (hk : n.cs[i]? = some k) (r : RAt b g cap i lv k (decide (i < n.acc)) n w) (k' : Cn) (j : Nat) (v : Value) (hj : j < 8)
    (hs : ∀ a, rc k' a = (rc k a).set j v) : RHas F b { n with cs := n.cs.set i k' } (w.setCell ⟨g, i * 8 + j, none⟩ v) ∧ Fr F w (w.setCell ⟨g, i * 8 + j, none⟩ v) := by
  have hil : i < n.cs.length := (List.getElem?_eq_some_iff.1 hk).1
  have hi : ∀ k2, ({ n with cs := n.cs.set i k' } : Nt).cs[i]? = some k2 → rc k2 (decide (i < n.acc)) = (rc k (decide (i < n.acc))).set j v := fun k2 hk2 => by
    rw [show ({ n with cs := n.cs.set i k' } : Nt).cs = n.cs.set i k' from rfl, List.getElem?_set_self hil] at hk2
    injection hk2 with hk2
    subst hk2
    exact hs _
  obtain ⟨h1, h2⟩ := h.upd (n' := { n with cs := n.cs.set i k' }) (g := g) (by rw [r.lv]; rfl) hk hj (v := v) rfl (by simp) hi (fun i' hi' => ⟨List.getElem?_set_ne (fun e => hi' e.symm), rfl⟩)
  exact ⟨⟨lv, _, h1⟩, h2⟩
section
variable {F : Nat → Prop} {b : Nat} {lv : Value} {xs : List Value} {n : Nt} {w : World}
set_option maxRecDepth 100000 in
theorem rsent_call (h : RK F b lv xs n w) (c : Int) : Calls Try.prog 39 #[ptr b, .int .i64 c] w fun e w' => e = .returned (.string (mk (n.sentA c))) ∧ w' = w := by
  have H1 := hid_of (has_call h c)
  rcases at_cases n c with ⟨h1, h2⟩ | ⟨i, k, rfl, hi, hk, h1⟩
  · rw [h1] at H1
    have e1 : n.sentA c = [] := by unfold Nt.sentA; rw [h1]; rfl
    rw [e1]
    simp only [Option.isSome_none] at H1
    clear h h1 h2 e1
    go_enter Try.func39, Try.ntmps39
    go_wp2_with fail
    refine H1.out.mono ?_
    rintro e w1 ⟨rfl, rfl⟩
    go_wp2_with fail
    go_ret
    exact ⟨rfl, rfl⟩
  · rw [h1] at H1
    obtain ⟨g, cap, r⟩ := h.at hk
    have c1 := r.c1
    have e1 : n.sentA (i : Int) = k.sent := by unfold Nt.sentA; rw [h1]; rfl
    rw [e1]
    obtain ⟨s, hs⟩ : ∃ s, s = mk k.sent := ⟨_, rfl⟩
    have x0 : w.cell? ⟨g, i * 8, none⟩ = some (.string s) := by rw [hs]; exact r.cell 0 (by omega)
    rw [← hs]
    have h0 : (0 : Int) ≤ (i : Int) := by omega
    have h3 : (i : Int) < (n.cs.length : Int) := by omega
    simp only [Option.isSome_some] at H1
    clear h h1 r hk e1 hs
    go_enter Try.func39, Try.ntmps39
    go_wp2_with fail
    refine H1.out.mono ?_
    rintro e w1 ⟨rfl, rfl⟩
    go_wp2_with fail
    go_ret
    exact ⟨rfl, rfl⟩
theorem sl_run (s t : ByteArray) (x : Nat) (hx : x ≤ s.size) (ht : bs t = (bs s).take x) (W : World) : (Instr.slice 9 (.string s) none (some (.int .i64 (x : Int))) none).run Try.prog W = .ok (.string t) W := by
  have := run_slice_string_to_if (P := Try.prog) (w := W) 9 s .i64 (x : Int) Try.underlying9
  rw [this, if_pos ⟨by omega, by omega⟩]
  show Result.ok (Value.string (s.extract 0 ((x : Int)).toNat)) W = _
  rw [Int.toNat_natCast, of_bs (a := s.extract 0 x) (b := t) (by rw [ext_take, ht])]
set_option maxRecDepth 100000 in
theorem rtaken_call (h : RK F b lv xs n w) (ok : Ok n) (c : Int) : Calls Try.prog 40 #[ptr b, .int .i64 c] w fun e w' => e = .returned (.string (mk (n.taken c))) ∧ ∃ m, w' = w.drewN m := by
  have H1 := hid_of (has_call h c)
  rcases at_cases n c with ⟨h1, h2⟩ | ⟨i, k, rfl, hi, hk, h1⟩
  · rw [h1] at H1
    have e1 : n.taken c = [] := by unfold Nt.taken; rw [h1]; rfl
    rw [e1]
    simp only [Option.isSome_none] at H1
    clear h h1 h2 e1
    go_enter Try.func40, Try.ntmps40
    go_wp2_with fail
    refine H1.out.mono ?_
    rintro e w1 ⟨rfl, rfl⟩
    go_wp2_with fail
    go_ret
    exact ⟨rfl, 0, rfl⟩
  · rw [h1] at H1
    obtain ⟨g, cap, r⟩ := h.at hk
    have c1 := r.c1
    have e1 : n.taken (i : Int) = k.wrote.take k.tk := by unfold Nt.taken; rw [h1]; rfl
    rw [e1]
    have htk := (ok.at h1).tk
    obtain ⟨s, hs⟩ : ∃ s, s = mk k.wrote := ⟨_, rfl⟩
    obtain ⟨t, ht⟩ : ∃ t, t = mk (k.wrote.take k.tk) := ⟨_, rfl⟩
    have x1 : w.cell? ⟨g, i * 8 + 1, none⟩ = some (.string s) := by rw [hs]; exact r.cell 1 (by omega)
    have x3 : w.cell? ⟨g, i * 8 + 3, none⟩ = some (.int .i64 k.tk) := r.cell 3 (by omega)
    have hsl := fun W => sl_run s t k.tk (by rw [hs, mk_size]; exact htk) (by rw [ht, hs]; rfl) W
    rw [← ht]
    have h0 : (0 : Int) ≤ (i : Int) := by omega
    have h3 : (i : Int) < (n.cs.length : Int) := by omega
    simp only [Option.isSome_some] at H1
    clear h h1 r hk e1 hs ht htk
    go_enter Try.func40, Try.ntmps40
    go_wp2_with fail
    refine H1.out.mono ?_
    rintro e w1 ⟨rfl, rfl⟩
    go_wp2_with fail
    go_quiet (fail)
    go_wp2_with fail
    go_ret
    exact ⟨rfl, _, rfl⟩
set_option maxHeartbeats 1000000 in
set_option maxRecDepth 100000 in
theorem rroom_call (h : RK F b lv xs n w) (ok : Ok n) (hz : ∀ c k, n.at c = some k → k.wrote.length ≤ 140737488355328) (c : Int) : Calls Try.prog 38 #[ptr b, .int .i64 c] w fun e w' => e = .returned (.int .i64 (n.room c)) ∧ ∃ m, w' = w.drewN m := by
  have H1 := hid_of (server_call h c)
  by_cases he : n.serveE c = 0
  · obtain ⟨i, k, rfl, hk, hat⟩ := serve_some he
    obtain ⟨g, cap, r⟩ := h.at hk
    have c1 := r.c1
    have c0 := r.c0
    have q := ok.at hat
    have h1 := q.tk
    have h2 := q.win
    have h4 := ok.hi
    have hzk := hz _ k hat
    have e1 : n.room (i : Int) = (n.win : Int) - (k.left : Int) := by unfold Nt.room; rw [if_pos he, hat]; rfl
    rw [e1]
    obtain ⟨s, hs⟩ : ∃ s, s = mk k.wrote := ⟨_, rfl⟩
    have hsz : s.size = k.wrote.length := by rw [hs, mk_size]
    have x1 : w.cell? ⟨g, i * 8 + 1, none⟩ = some (.string s) := by rw [hs]; exact r.cell 1 (by omega)
    have x3 : w.cell? ⟨g, i * 8 + 3, none⟩ = some (.int .i64 k.tk) := r.cell 3 (by omega)
    obtain ⟨L, hL⟩ : ∃ L, L = k.left := ⟨_, rfl⟩
    have g1 : IntKind.i64.wrap ((s.size : Int) - (k.tk : Int)) = (L : Int) := by rw [IntWalk.i64_in _ (by omega), hL]; unfold Cn.left; omega
    have g2 : IntKind.i64.wrap ((n.win : Int) - (L : Int)) = (n.win : Int) - (L : Int) := IntWalk.i64_in _ (by omega)
    rw [← hL]
    have hil : i < n.cs.length := (List.getElem?_eq_some_iff.1 hk).1
    have h0 : (0 : Int) ≤ (i : Int) := by omega
    have h3 : (i : Int) < (n.cs.length : Int) := by omega
    rw [he] at H1
    clear h he hat r hk e1 hs hsz hL q h1 h2 h4 hzk hz
    go_enter Try.func38, Try.ntmps38
    go_wp2_with fail
    refine H1.out.mono ?_
    rintro e w1 ⟨rfl, rfl⟩
    go_wp2_with fail
    go_quiet (fail)
    go_wp2_with fail
    go_ret
    exact ⟨rfl, _, rfl⟩
  · have e1 : n.room c = 0 := by unfold Nt.room; rw [if_neg he]
    rw [e1]
    have g1 : (n.serveE c == 0) = false := by simpa using he
    clear h he e1 hz
    go_enter Try.func38, Try.ntmps38
    go_wp2_with fail
    refine H1.out.mono ?_
    rintro e w1 ⟨rfl, rfl⟩
    go_wp2_with fail
    go_ret
    exact ⟨rfl, 0, rfl⟩
set_option maxHeartbeats 1000000 in
set_option maxRecDepth 100000 in
theorem rend_call (h : RK F b lv xs n w) (c : Int) : Calls Try.prog 28 #[ptr b, .int .i64 c] w fun e w' => e = .returned (.int .i64 (n.endC c).2) ∧ RHas F b (n.endC c).1 w' ∧ Fr F w w' := by
  have H1 := hid_of (client_call h c)
  by_cases he : n.sendE c = 0
  · obtain ⟨i, k, rfl, hk, hat⟩ := send_some he
    obtain ⟨g, cap, r⟩ := h.at hk
    have c1 := r.c1
    have x5 : w.cell? ⟨g, i * 8 + 5, none⟩ = some (.bool k.ended) := r.cell 5 (by omega)
    have f5 := r.fr (i * 8 + 5)
    have e1 : n.endC (i : Int) = ({ n with cs := n.cs.set i { k with ended := true } }, 0) := by unfold Nt.endC; rw [if_pos he, mod_some hat]
    rw [e1]
    have HN := hid_of (RK.updCn h hk r { k with ended := true } 5 (.bool true) (by omega) (fun a => rfl))
    have hil : i < n.cs.length := (List.getElem?_eq_some_iff.1 hk).1
    have h0 : (0 : Int) ≤ (i : Int) := by omega
    have h3 : (i : Int) < (n.cs.length : Int) := by omega
    rw [he] at H1
    clear h he hat r hk e1
    go_enter Try.func28, Try.ntmps28
    go_wp2_with fail
    refine H1.out.mono ?_
    rintro e w1 ⟨rfl, rfl⟩
    go_wp2_with fail
    go_ret
    exact ⟨rfl, HN.out.1, HN.out.2⟩
  · have e1 : n.endC c = (n, n.sendE c) := by unfold Nt.endC; rw [if_neg he]
    rw [e1]
    have g1 : (n.sendE c == 0) = false := by simpa using he
    have H := hid_of h
    clear h he e1
    go_enter Try.func28, Try.ntmps28
    go_wp2_with fail
    refine H1.out.mono ?_
    rintro e w1 ⟨rfl, rfl⟩
    go_wp2_with fail
    go_ret
    exact ⟨rfl, ⟨_, _, H.out⟩, Fr.refl _ _⟩
set_option maxHeartbeats 1000000 in
set_option maxRecDepth 100000 in
theorem rclose_call (h : RK F b lv xs n w) (c : Int) : Calls Try.prog 36 #[ptr b, .int .i64 c] w fun e w' => e = .returned (.int .i64 (n.close c).2) ∧ RHas F b (n.close c).1 w' ∧ Fr F w w' := by
  have H1 := hid_of (server_call h c)
  by_cases he : n.serveE c = 0
  · obtain ⟨i, k, rfl, hk, hat⟩ := serve_some he
    obtain ⟨g, cap, r⟩ := h.at hk
    have c1 := r.c1
    have x6 : w.cell? ⟨g, i * 8 + 6, none⟩ = some (.bool k.closed) := r.cell 6 (by omega)
    have f6 := r.fr (i * 8 + 6)
    have e1 : n.close (i : Int) = ({ n with cs := n.cs.set i { k with closed := true } }, 0) := by unfold Nt.close; rw [if_pos he, mod_some hat]
    rw [e1]
    have HN := hid_of (RK.updCn h hk r { k with closed := true } 6 (.bool true) (by omega) (fun a => rfl))
    have hil : i < n.cs.length := (List.getElem?_eq_some_iff.1 hk).1
    have h0 : (0 : Int) ≤ (i : Int) := by omega
    have h3 : (i : Int) < (n.cs.length : Int) := by omega
    rw [he] at H1
    clear h he hat r hk e1
    go_enter Try.func36, Try.ntmps36
    go_wp2_with fail
    refine H1.out.mono ?_
    rintro e w1 ⟨rfl, rfl⟩
    go_wp2_with fail
    go_ret
    exact ⟨rfl, HN.out.1, HN.out.2⟩
  · have e1 : n.close c = (n, n.serveE c) := by unfold Nt.close; rw [if_neg he]
    rw [e1]
    have g1 : (n.serveE c == 0) = false := by simpa using he
    have H := hid_of h
    clear h he e1
    go_enter Try.func36, Try.ntmps36
    go_wp2_with fail
    refine H1.out.mono ?_
    rintro e w1 ⟨rfl, rfl⟩
    go_wp2_with fail
    go_ret
    exact ⟨rfl, ⟨_, _, H.out⟩, Fr.refl _ _⟩
theorem mk_app (a b : Bs) : mk (a ++ b) = mk a ++ mk b := by
  apply of_bs
  show a ++ b = (mk a ++ mk b).data.toList
  simp [mk]
theorem rlike {F : Nat → Prop} {b : Nat} {n : Nt} {w w' : World} (h : RHas F b n w) (k : Lk w w') : RHas F b n w' := by
  obtain ⟨lv, xs, h⟩ := h
  exact ⟨lv, xs, h.below ⟨k.os, k.tape, k.output, by rw [k.heap]; exact Nat.le_refl _, fun i hi => by rw [k.heap]⟩⟩
set_option maxHeartbeats 1000000 in
set_option maxRecDepth 100000 in
theorem rsend_call (h : RK F b lv xs n w) (c : Int) (s : ByteArray) (hz : ∀ k, n.at c = some k → k.sent.length + s.size ≤ 140737488355328) : Calls Try.prog 26 #[ptr b, .int .i64 c, .string s] w fun e w' => e = .returned (.int .i64 (n.send c (bs s)).2) ∧ RHas F b (n.send c (bs s)).1 w' ∧ Fr F w w' := by
  have H1 := hid_of (client_call h c)
  by_cases he : n.sendE c = 0
  · obtain ⟨i, k, rfl, hk, hat⟩ := send_some he
    obtain ⟨g, cap, r⟩ := h.at hk
    have c1 := r.c1
    have hzk := hz k hat
    obtain ⟨t, ht⟩ : ∃ t, t = mk k.sent := ⟨_, rfl⟩
    have htz : t.size + s.size ≤ 140737488355328 := by rw [ht, mk_size]; exact hzk
    have x0 : w.cell? ⟨g, i * 8, none⟩ = some (.string t) := by rw [ht]; exact r.cell 0 (by omega)
    have f0 := r.fr (i * 8)
    have e1 : n.send (i : Int) (bs s) = ({ n with cs := n.cs.set i { k with sent := k.sent ++ bs s } }, 0) := by unfold Nt.send; rw [if_pos he, mod_some hat]
    rw [e1]
    have HN := hid_of (RK.updCn h hk r { k with sent := k.sent ++ bs s } 0 (.string (t ++ s)) (by omega) (fun a => by
      have : mk (k.sent ++ bs s) = t ++ s := by rw [mk_app, mk_bs, ht]
      unfold rc
      dsimp only
      rw [this]
      rfl))
    have hil : i < n.cs.length := (List.getElem?_eq_some_iff.1 hk).1
    have h0 : (0 : Int) ≤ (i : Int) := by omega
    have h3 : (i : Int) < (n.cs.length : Int) := by omega
    rw [he] at H1
    clear h he hat r hk e1 ht hz hzk
    go_enter Try.func26, Try.ntmps26
    go_wp2_with fail
    refine H1.out.mono ?_
    rintro e w1 ⟨rfl, rfl⟩
    go_wp2_with fail
    go_region
    go_wp2_with fail
    go_ret
    exact ⟨rfl, rlike HN.out.1 ⟨rfl, rfl, rfl, rfl⟩, Lk.fr HN.out.2 ⟨rfl, rfl, rfl, rfl⟩⟩
  · have e1 : n.send c (bs s) = (n, n.sendE c) := by unfold Nt.send; rw [if_neg he]
    rw [e1]
    have g1 : (n.sendE c == 0) = false := by simpa using he
    have H := hid_of h
    clear h he e1 hz
    go_enter Try.func26, Try.ntmps26
    go_wp2_with fail
    refine H1.out.mono ?_
    rintro e w1 ⟨rfl, rfl⟩
    go_wp2_with fail
    go_ret
    exact ⟨rfl, ⟨_, _, H.out⟩, Fr.refl _ _⟩
end
end Go.Proofs.Ythmfgnagpifnlaa.RefCalls
