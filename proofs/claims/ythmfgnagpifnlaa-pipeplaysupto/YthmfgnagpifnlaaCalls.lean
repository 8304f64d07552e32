/- The calls of clients and of the server. -/
import Derived.Test.YthmfgnagpifnlaaConnect
namespace Go.Proofs.Ythmfgnagpifnlaa.Calls
open Go.RowKit
open Go.Proofs.Ythmfgnagpifnlaa.PipeMath
open Go.Proofs.Ythmfgnagpifnlaa.Base
open Go.Proofs.Ythmfgnagpifnlaa.Queue
open Go.Proofs.Ythmfgnagpifnlaa.Queue2
open Go.Proofs.Ythmfgnagpifnlaa.Drop
open Go.Proofs.Ythmfgnagpifnlaa.Net
set_option linter.unusedVariables false

theorem some_of {n : Nt} {c : Int} {e : Int} (h : (match n.at c with | none => (60 : Int) | some _ => e) = 0) : ∃ (i : Nat) (k : Cn), c = (i : Int) ∧ n.cs[i]? = some k ∧ n.at c = some k := by
  rcases at_cases n c with ⟨h1, -⟩ | ⟨i, k, rfl, hi, hk, h1⟩
  · rw [h1] at h; cases h
  · exact ⟨i, k, rfl, hk, h1⟩
theorem send_some {n : Nt} {c : Int} (h : n.sendE c = 0) : ∃ (i : Nat) (k : Cn), c = (i : Int) ∧ n.cs[i]? = some k ∧ n.at c = some k := by
  rcases at_cases n c with ⟨h1, -⟩ | ⟨i, k, rfl, hi, hk, h1⟩
  · unfold Nt.sendE at h; rw [h1] at h; cases h
  · exact ⟨i, k, rfl, hk, h1⟩
theorem whole_some {n : Nt} {c : Int} (h : n.wholeE c = 0) : ∃ (i : Nat) (k : Cn), c = (i : Int) ∧ n.cs[i]? = some k ∧ n.at c = some k := by
  rcases at_cases n c with ⟨h1, -⟩ | ⟨i, k, rfl, hi, hk, h1⟩
  · unfold Nt.wholeE at h; rw [h1] at h; cases h
  · exact ⟨i, k, rfl, hk, h1⟩
theorem serve_some {n : Nt} {c : Int} (h : n.serveE c = 0) : ∃ (i : Nat) (k : Cn), c = (i : Int) ∧ n.cs[i]? = some k ∧ n.at c = some k := by
  rcases at_cases n c with ⟨h1, -⟩ | ⟨i, k, rfl, hi, hk, h1⟩
  · unfold Nt.serveE at h; rw [h1] at h; cases h
  · exact ⟨i, k, rfl, hk, h1⟩
theorem mod_some {n : Nt} {i : Nat} {k : Cn} (h : n.at (i : Int) = some k) (f : Cn → Cn) : n.mod (i : Int) f = { n with cs := n.cs.set i (f k) } := by unfold Nt.mod; rw [h]; rfl
theorem pv_zero (y : Lay) (i : Nat) : pv y (i : Int) 0 = ptr (y.pos i) := rfl
theorem pv_not (y : Lay) (c e : Int) (h : e ≠ 0) : pv y c e = .pointer none := if_neg h
/- a flag or a count of one connection has turned -/
theorem NK.flag {F : Nat → Prop} {b : Nat} {y : Lay} {n : Nt} {w : World} (h : NK F b y n w) {i : Nat} {k : Cn} (hk : n.cs[i]? = some k) (k' : Cn) (j : Nat) (v : Value)
    (e1 : (cnCells (y.tv i false) (y.tv i true) k).setIfInBounds j v = cnCells (y.tv i false) (y.tv i true) k') (e2 : k'.sent = k.sent) (e3 : k'.wrote = k.wrote) (ok : Ok { n with cs := n.cs.set i k' }) :
    Has (Gr F w) b { n with cs := n.cs.set i k' } (w.setCell ⟨y.pos i, j, none⟩ v) ∧ Fr F w (w.setCell ⟨y.pos i, j, none⟩ v) := by
  have q := h.fl i k hk
  have hil : i < n.cs.length := (List.getElem?_eq_some_iff.1 hk).1
  have hr : ∀ {m : Nat} {v' : Value} {xs : List Value}, w.ownsRow 0 5 1 v' m xs → (w.setCell ⟨y.pos i, j, none⟩ v).ownsRow 0 5 1 v' m xs := fun hrow => row_later hrow fun g hg => by
    obtain ⟨cur, hc⟩ := row_kd hrow hg
    exact set_ne (kinds hc q.blk (by decide)) _
  refine ⟨⟨_, h.turn hk (fun a ha hne _ _ => set_ne hne _) (by rw [size_set]; exact Nat.le_refl _) (by rw [set_at q.blk, e1]) (by rw [e2]; exact hr q.inr) (by rw [e3]; exact hr q.outr) (fun g e => Or.inl e) (fun g e => Or.inl e)
    (fun g e => h.apart i false i true g hil hil (by simp) e) ok⟩, Fr.set q.own _⟩
set_option maxHeartbeats 1000000 in
set_option maxRecDepth 100000 in
theorem send_call {F : Nat → Prop} {b : Nat} {y : Lay} {n : Nt} {w : World} (h : NK F b y n w) (c : Int) (s : ByteArray) (hz : ∀ k, n.at c = some k → k.sent.length + s.size ≤ 140737488355328) :
    Calls Try.prog 21 #[ptr b, .int .i64 c, .string s] w fun e w' => e = .returned (.int .i64 (n.send c (bs s)).2) ∧ Has (Gr F w) b (n.send c (bs s)).1 w' ∧ Fr F w w' := by
  have H1 := hid_of (sending_call h c)
  have hok := send_ok h.ok c (bs s)
  by_cases he : n.sendE c = 0
  · obtain ⟨i, k, rfl, hk, hat⟩ := send_some he
    have e1 : n.send (i : Int) (bs s) = ({ n with cs := n.cs.set i { k with sent := k.sent ++ bs s } }, 0) := by unfold Nt.send; rw [if_pos he, mod_some hat]
    rw [e1] at hok ⊢
    rw [he, pv_zero] at H1
    have q := h.fl i k hk
    have hil : i < n.cs.length := (List.getElem?_eq_some_iff.1 hk).1
    have H2 := hid_of (put_call (y.pos i) 0 _ (y.tv i false) k.sent s w q.blk rfl q.inr (hz k hat))
    have H := hid_of h
    have HK := hid_of hok
    clear h hz he hat e1 q hok
    go_enter Try.func21, Try.ntmps21
    go_wp2_with fail
    refine H1.out.mono ?_
    rintro e w1 ⟨rfl, rfl⟩
    go_wp2_with fail
    refine H2.out.mono ?_
    rintro e w2 ⟨rfl, v', hb, hr, hn, hf⟩
    have HQ := hid_of (And.intro hb (And.intro hr (And.intro hn hf)))
    clear hb hr hn hf
    go_wp2_with fail
    go_ret
    obtain ⟨hb, hr, hn, hf⟩ := HQ.out
    have q := H.out.fl i k hk
    refine ⟨rfl, ⟨_, H.out.turn hk (iv := v') (ov := y.tv i true) (fun a ha hne h1 h2 => hf.block a ha (fun e => e.elim hne h1)) hf.size hb hr (row_later q.outr fun g hg => hf.block g ?_ ?_) hn (fun g e => Or.inl e) (fun g e e2 => ?_) HK.out⟩, hf.mono fun a ha e => ?_⟩
    · obtain ⟨cur, hc⟩ := row_kd q.outr hg
      exact lt_of hc
    · rintro (e | e)
      · obtain ⟨cur, hc⟩ := row_kd q.outr hg
        exact kinds hc q.blk (by decide) e
      · exact H.out.apart i false i true g hil hil (by simp) e hg
    · rcases hn g e with e1 | e1
      · exact H.out.apart i false i true g hil hil (by simp) e1 e2
      · obtain ⟨cur, hc⟩ := row_kd q.outr e2
        have := lt_of hc
        omega
    · rcases e with rfl | e
      · exact q.own
      · exact q.iown a e
  · have e1 : n.send c (bs s) = (n, n.sendE c) := by unfold Nt.send; rw [if_neg he]
    rw [e1]
    rw [pv_not _ _ _ he] at H1
    have H := hid_of h
    clear h hz he e1 hok
    go_enter Try.func21, Try.ntmps21
    go_wp2_with fail
    refine H1.out.mono ?_
    rintro e w1 ⟨rfl, rfl⟩
    go_wp2_with fail
    go_ret
    exact ⟨rfl, ⟨y, H.out.mono fun _ e => Or.inl e⟩, Fr.refl _ _⟩
set_option maxHeartbeats 1000000 in
set_option maxRecDepth 100000 in
theorem end_call {F : Nat → Prop} {b : Nat} {y : Lay} {n : Nt} {w : World} (h : NK F b y n w) (c : Int) :
    Calls Try.prog 27 #[ptr b, .int .i64 c] w fun e w' => e = .returned (.int .i64 (n.endC c).2) ∧ Has (Gr F w) b (n.endC c).1 w' ∧ Fr F w w' := by
  have H1 := hid_of (sending_call h c)
  have hok := endC_ok h.ok c
  by_cases he : n.sendE c = 0
  · obtain ⟨i, k, rfl, hk, hat⟩ := send_some he
    have e1 : n.endC (i : Int) = ({ n with cs := n.cs.set i { k with ended := true } }, 0) := by unfold Nt.endC; rw [if_pos he, mod_some hat]
    rw [e1] at hok ⊢
    rw [he, pv_zero] at H1
    have q := h.fl i k hk
    have c2 : w.cell? ⟨y.pos i, 2, none⟩ = some (.bool k.ended) := by rw [Lib.cell_of_heap q.blk]; rfl
    have f2 : w.frozen? ⟨y.pos i, 2, none⟩ = false := Lib.frozen_of_heap q.blk 2
    have HN := hid_of (NK.flag h hk { k with ended := true } 2 (.bool true) rfl rfl rfl hok)
    clear h he hat e1 q hok
    go_enter Try.func27, Try.ntmps27
    go_wp2_with fail
    refine H1.out.mono ?_
    rintro e w1 ⟨rfl, rfl⟩
    go_wp2_with fail
    go_ret
    exact ⟨rfl, HN.out.1, HN.out.2⟩
  · have e1 : n.endC c = (n, n.sendE c) := by unfold Nt.endC; rw [if_neg he]
    rw [e1]
    rw [pv_not _ _ _ he] at H1
    have H := hid_of h
    clear h he e1 hok
    go_enter Try.func27, Try.ntmps27
    go_wp2_with fail
    refine H1.out.mono ?_
    rintro e w1 ⟨rfl, rfl⟩
    go_wp2_with fail
    go_ret
    exact ⟨rfl, ⟨y, H.out.mono fun _ e => Or.inl e⟩, Fr.refl _ _⟩
set_option maxHeartbeats 1000000 in
set_option maxRecDepth 100000 in
theorem close_call {F : Nat → Prop} {b : Nat} {y : Lay} {n : Nt} {w : World} (h : NK F b y n w) (c : Int) :
    Calls Try.prog 35 #[ptr b, .int .i64 c] w fun e w' => e = .returned (.int .i64 (n.close c).2) ∧ Has (Gr F w) b (n.close c).1 w' ∧ Fr F w w' := by
  have H1 := hid_of (serving_call h c)
  have hok := close_ok h.ok c
  by_cases he : n.serveE c = 0
  · obtain ⟨i, k, rfl, hk, hat⟩ := serve_some he
    have e1 : n.close (i : Int) = ({ n with cs := n.cs.set i { k with closed := true } }, 0) := by unfold Nt.close; rw [if_pos he, mod_some hat]
    rw [e1] at hok ⊢
    rw [he, pv_zero] at H1
    have q := h.fl i k hk
    have c2 : w.cell? ⟨y.pos i, 5, none⟩ = some (.bool k.closed) := by rw [Lib.cell_of_heap q.blk]; rfl
    have f2 : w.frozen? ⟨y.pos i, 5, none⟩ = false := Lib.frozen_of_heap q.blk 5
    have HN := hid_of (NK.flag h hk { k with closed := true } 5 (.bool true) rfl rfl rfl hok)
    clear h he hat e1 q hok
    go_enter Try.func35, Try.ntmps35
    go_wp2_with fail
    refine H1.out.mono ?_
    rintro e w1 ⟨rfl, rfl⟩
    go_wp2_with fail
    go_ret
    exact ⟨rfl, HN.out.1, HN.out.2⟩
  · have e1 : n.close c = (n, n.serveE c) := by unfold Nt.close; rw [if_neg he]
    rw [e1]
    rw [pv_not _ _ _ he] at H1
    have H := hid_of h
    clear h he e1 hok
    go_enter Try.func35, Try.ntmps35
    go_wp2_with fail
    refine H1.out.mono ?_
    rintro e w1 ⟨rfl, rfl⟩
    go_wp2_with fail
    go_ret
    exact ⟨rfl, ⟨y, H.out.mono fun _ e => Or.inl e⟩, Fr.refl _ _⟩
theorem like_has {F : Nat → Prop} {b : Nat} {n : Nt} {w w' : World} (h : Has F b n w) (k : Lk w w') : Has F b n w' := by
  obtain ⟨y, h⟩ := h
  exact ⟨y, h.below ⟨k.os, k.tape, k.output, by rw [k.heap]; exact Nat.le_refl _, fun i hi => by rw [k.heap]⟩⟩
set_option maxHeartbeats 1000000 in
set_option maxRecDepth 100000 in
theorem take_call {F : Nat → Prop} {b : Nat} {y : Lay} {n : Nt} {w : World} (h : NK F b y n w) (c m : Int) (hz : ∀ k, n.at c = some k → k.wrote.length ≤ 140737488355328) :
    Calls Try.prog 24 #[ptr b, .int .i64 c, .int .i64 m] w fun e w' => e = .returned (.tuple #[.string (mk (n.take c m).2.1), .int .i64 (n.take c m).2.2]) ∧ Has (Gr F w) b (n.take c m).1 w' ∧ Fr F w w' := by
  have H1 := hid_of (whole_call h c)
  have hok := take_ok h.ok c m
  by_cases he : n.wholeE c = 0
  · obtain ⟨i, k, rfl, hk, hat⟩ := whole_some he
    have e1 : n.take (i : Int) m = ({ n with cs := n.cs.set i (k.took m) }, k.takes m, 0) := by unfold Nt.take; rw [if_pos he, mod_some hat, hat]; rfl
    rw [e1] at hok ⊢
    rw [he, pv_zero] at H1
    have q := h.fl i k hk
    have ok := h.ok.all k (List.mem_of_getElem? hk)
    have H2 := hid_of (pass_call (y.pos i) 3 _ (y.tv i true) k.wrote k.tk m w q.blk rfl rfl ok.tk (hz k hat) q.outr)
    have HN := hid_of (NK.flag h hk (k.took m) 4 (.int .i64 ((k.tk + cl m (k.wrote.length - k.tk) : Nat) : Int)) rfl rfl rfl hok)
    show Calls Try.prog 24 #[ptr b, .int .i64 (i : Int), .int .i64 m] w fun e w' => e = .returned (.tuple #[.string (mk ((k.wrote.drop k.tk).take (cl m (k.wrote.length - k.tk)))), .int .i64 0]) ∧ Has (Gr F w) b { n with cs := n.cs.set i (k.took m) } w' ∧ Fr F w w'
    clear h he hat e1 q hok hz ok
    go_enter Try.func24, Try.ntmps24
    go_wp2_with fail
    refine H1.out.mono ?_
    rintro e w1 ⟨rfl, rfl⟩
    go_wp2_with fail
    refine H2.out.mono ?_
    rintro e w2 ⟨rfl, lk⟩
    go_wp2_with fail
    go_ret2
    exact ⟨rfl, like_has HN.out.1 lk, Lk.fr HN.out.2 lk⟩
  · have e1 : n.take c m = (n, [], n.wholeE c) := by unfold Nt.take; rw [if_neg he]
    rw [e1]
    rw [pv_not _ _ _ he] at H1
    have H := hid_of h
    clear h he e1 hok hz
    go_enter Try.func24, Try.ntmps24
    go_wp2_with fail
    refine H1.out.mono ?_
    rintro e w1 ⟨rfl, rfl⟩
    go_wp2_with fail
    go_ret2
    exact ⟨rfl, ⟨y, H.out.mono fun _ e => Or.inl e⟩, Fr.refl _ _⟩
end Go.Proofs.Ythmfgnagpifnlaa.Calls
