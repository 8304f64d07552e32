/- Write, Room, Sent, Taken, Line. -/
import Derived.Test.YthmfgnagpifnlaaCalls2
namespace Go.Proofs.Ythmfgnagpifnlaa.Calls3
open Go.RowKit
open Go.Proofs.Ythmfgnagpifnlaa.PipeMath
open Go.Proofs.Ythmfgnagpifnlaa.Base
open Go.Proofs.Ythmfgnagpifnlaa.Queue
open Go.Proofs.Ythmfgnagpifnlaa.Queue2
open Go.Proofs.Ythmfgnagpifnlaa.Drop
open Go.Proofs.Ythmfgnagpifnlaa.Net
open Go.Proofs.Ythmfgnagpifnlaa.Calls
set_option linter.unusedVariables false

theorem ext_take (s : ByteArray) (n : Nat) : bs (s.extract 0 n) = (bs s).take n := by
  unfold bs
  rw [ByteArray.data_extract]
  simp
theorem ext_size (s : ByteArray) (n : Nat) (hn : n ≤ s.size) : (s.extract 0 n).size = n := by rw [← len_bs, ext_take, List.length_take, len_bs]; omega
theorem Lk.drewN (w : World) (m : Nat) : Lk w (w.drewN m) := ⟨rfl, rfl, rfl, rfl⟩
set_option maxHeartbeats 1000000 in
set_option maxRecDepth 100000 in
theorem write_call {F : Nat → Prop} {b : Nat} {y : Lay} {n : Nt} {w : World} (h : NK F b y n w) (c : Int) (s : ByteArray) (hz : ∀ k, n.at c = some k → k.wrote.length + s.size ≤ 140737488355328) (hs : s.size ≤ 140737488355328) :
    Calls Try.prog 23 #[ptr b, .int .i64 c, .string s] w fun e w' => e = .returned (.tuple #[.int .i64 (n.write c (bs s)).2.1, .int .i64 (n.write c (bs s)).2.2]) ∧ Has (Gr F w) b (n.write c (bs s)).1 w' ∧ Fr F w w' := by
  have H1 := hid_of (serving_call h c)
  have hok := write_ok h.ok c (bs s)
  by_cases he : n.serveE c = 0
  · obtain ⟨i, k, rfl, hk, hat⟩ := serve_some he
    have e1 : n.write (i : Int) (bs s) = ({ n with cs := n.cs.set i { k with wrote := k.wrote ++ (bs s).take (n.fit k (bs s)) } }, (n.fit k (bs s) : Int), 0) := by unfold Nt.write; rw [if_pos he, mod_some hat, hat]; rfl
    rw [e1] at hok ⊢
    rw [he, pv_zero] at H1
    have hzk := hz k hat
    have hT := fit_le n k (bs s)
    rw [len_bs] at hT
    obtain ⟨T, hTe⟩ : ∃ T, T = n.fit k (bs s) := ⟨_, rfl⟩
    obtain ⟨R, hR⟩ : ∃ R, R = n.win - k.left := ⟨_, rfl⟩
    have hmin : (if (R : Int) < (s.size : Int) then (R : Int) else (s.size : Int)) = (T : Int) := by
      rw [hTe, hR]
      unfold Nt.fit
      rw [len_bs]
      split <;> omega
    rw [← hTe] at hT hok ⊢
    obtain ⟨u, hu⟩ : ∃ u, u = s.extract 0 T := ⟨_, rfl⟩
    have hub : bs u = (bs s).take T := by rw [hu, ext_take]
    have hus : u.size = T := by rw [hu]; exact ext_size s T hT
    have hsl : ∀ W, (Instr.slice 9 (.string s) none (some (.int .i64 (T : Int))) none).run Try.prog W = .ok (.string u) W := fun W => by
      have := run_slice_string_to_if (P := Try.prog) (w := W) 9 s .i64 (T : Int) Try.underlying9
      rw [this, if_pos ⟨by omega, by omega⟩, hu]
      rfl
    rw [← hub] at hok ⊢
    have q := h.fl i k hk
    have hil : i < n.cs.length := (List.getElem?_eq_some_iff.1 hk).1
    have H2 := hid_of (fun W (hW : Lk w W) => put_call (y.pos i) 3 _ (y.tv i true) k.wrote u W (by rw [hW.heap]; exact q.blk) rfl (row_later q.outr fun g _ => by rw [hW.heap]) (by omega))
    have H3 := hid_of (room_in h hk (by omega))
    rw [← hR] at H3
    have H := hid_of h
    have HK := hid_of hok
    clear h hz he hat e1 q hok hzk hTe hR hu hub hus hT
    have hcase : ((R : Int) < (s.size : Int) ∧ T = R) ∨ (¬ (R : Int) < (s.size : Int) ∧ T = s.size) := by
      by_cases hlt : (R : Int) < (s.size : Int)
      · rw [if_pos hlt] at hmin; exact Or.inl ⟨hlt, by omega⟩
      · rw [if_neg hlt] at hmin; exact Or.inr ⟨hlt, by omega⟩
    clear hmin
    rcases hcase with ⟨hlt, rfl⟩ | ⟨hlt, rfl⟩
    all_goals
      go_enter Try.func23, Try.ntmps23
      go_wp2_with fail
      refine H1.out.mono ?_
      rintro e w1 ⟨rfl, rfl⟩
      go_wp2_with fail
      refine H3.out.mono ?_
      rintro e w2 ⟨rfl, m, rfl⟩
      go_wp2_with fail
      go_region_with (first | (go_at_call 49; refine Calls.mono (H2.out _ (by exact ⟨rfl, rfl, rfl, rfl⟩)) ?_; rintro e w2 ⟨rfl, v', hb, hr, hn, hf⟩; have HQ := hid_of (And.intro hb (And.intro hr (And.intro hn hf))); clear hb hr hn hf))
      all_goals
        go_wp2_with fail
        go_ret2
        obtain ⟨hb, hr, hn, hf⟩ := HQ.out
        have q := H.out.fl i k hk
        refine ⟨rfl, ⟨_, H.out.turn hk (iv := y.tv i false) (ov := v') (fun a ha hne h1 h2 => hf.block a ha (fun e => e.elim hne h2)) hf.size hb (row_later q.inr fun g hg => hf.block g ?_ ?_) hr (fun g e => Or.inl e) hn (fun g e e2 => ?_) HK.out⟩, ?_⟩
        · obtain ⟨cur, hc⟩ := row_kd q.inr hg
          exact lt_of hc
        · rintro (e | e)
          · obtain ⟨cur, hc⟩ := row_kd q.inr hg
            exact kinds hc q.blk (by decide) e
          · exact H.out.apart i false i true g hil hil (by simp) hg e
        · rcases hn g e2 with e1 | e1
          · exact H.out.apart i false i true g hil hil (by simp) e e1
          · obtain ⟨cur, hc⟩ := row_kd q.inr e
            have h1 := lt_of hc
            have h2 : w1.heap.size ≤ g := e1
            omega
        · have hf2 : Fr (QF (y.pos i) (y.tv i true)) w1 w2 := ⟨hf.os, hf.tape, hf.output, hf.size, hf.block⟩
          refine hf2.mono fun a ha e => ?_
          rcases e with rfl | e
          · exact q.own
          · exact q.oown a e
  · have e1 : n.write c (bs s) = (n, 0, n.serveE c) := by unfold Nt.write; rw [if_neg he]
    rw [e1]
    rw [pv_not _ _ _ he] at H1
    have H := hid_of h
    clear h hz he e1 hok
    go_enter Try.func23, Try.ntmps23
    go_wp2_with fail
    refine H1.out.mono ?_
    rintro e w1 ⟨rfl, rfl⟩
    go_wp2_with fail
    go_ret2
    exact ⟨rfl, ⟨y, H.out.mono fun _ e => Or.inl e⟩, Fr.refl _ _⟩
set_option maxHeartbeats 1000000 in
set_option maxRecDepth 100000 in
theorem room_call {F : Nat → Prop} {b : Nat} {y : Lay} {n : Nt} {w : World} (h : NK F b y n w) (c : Int) (hz : ∀ k, n.at c = some k → k.wrote.length ≤ 140737488355328) :
    Calls Try.prog 20 #[ptr b, .int .i64 c] w fun e w' => e = .returned (.int .i64 (n.room c)) ∧ ∃ m, w' = w.drewN m := by
  have H1 := hid_of (serving_call h c)
  by_cases he : n.serveE c = 0
  · obtain ⟨i, k, rfl, hk, hat⟩ := serve_some he
    have ok := h.ok.all k (List.mem_of_getElem? hk)
    have h2 := ok.win
    have e1 : n.room (i : Int) = ((n.win - k.left : Nat) : Int) := by unfold Nt.room; rw [if_pos he, hat]; show (n.win : Int) - (k.left : Int) = _; omega
    rw [e1]
    rw [he, pv_zero] at H1
    have H3 := hid_of (room_in h hk (hz k hat))
    clear h hz he hat e1 ok h2
    go_enter Try.func20, Try.ntmps20
    go_wp2_with fail
    refine H1.out.mono ?_
    rintro e w1 ⟨rfl, rfl⟩
    go_wp2_with fail
    refine H3.out.mono ?_
    rintro e w2 ⟨rfl, m, rfl⟩
    go_wp2_with fail
    go_ret
    exact ⟨rfl, m, rfl⟩
  · have e1 : n.room c = 0 := by unfold Nt.room; rw [if_neg he]
    rw [e1]
    rw [pv_not _ _ _ he] at H1
    clear h hz he e1
    go_enter Try.func20, Try.ntmps20
    go_wp2_with fail
    refine H1.out.mono ?_
    rintro e w1 ⟨rfl, rfl⟩
    go_wp2_with fail
    go_ret
    exact ⟨rfl, 0, rfl⟩
set_option maxRecDepth 100000 in
theorem sent_call {F : Nat → Prop} {b : Nat} {y : Lay} {n : Nt} {w : World} (h : NK F b y n w) (c : Int) :
    Calls Try.prog 17 #[ptr b, .int .i64 c] w fun e w' => e = .returned (.string (mk (n.sentA c))) ∧ w' = w := by
  rcases at_cases n c with ⟨h1, -⟩ | ⟨i, k, rfl, hi, hk, h1⟩
  · have H1 := hid_of (find_none h h1)
    have e1 : n.sentA c = [] := by unfold Nt.sentA; rw [h1]; rfl
    rw [e1]
    clear h h1 e1
    go_enter Try.func17, Try.ntmps17
    go_wp2_with fail
    refine H1.out.mono ?_
    rintro e w1 ⟨rfl, rfl⟩
    go_wp2_with fail
    go_ret
    exact ⟨rfl, rfl⟩
  · have H1 := hid_of (find_some h hi)
    have q := h.fl i k hk
    have H2 := hid_of (all_call (y.pos i) 0 (y.tv i false) k.sent w (Lib.cell_of_heap q.blk 0) q.inr)
    have e1 : n.sentA (i : Int) = k.sent := by unfold Nt.sentA; rw [h1]; rfl
    rw [e1]
    clear h h1 e1 q
    go_enter Try.func17, Try.ntmps17
    go_wp2_with fail
    refine H1.out.mono ?_
    rintro e w1 ⟨rfl, rfl⟩
    go_wp2_with fail
    refine H2.out.mono ?_
    rintro e w2 ⟨rfl, rfl⟩
    go_wp2_with fail
    go_ret
    exact ⟨rfl, rfl⟩
set_option maxRecDepth 100000 in
theorem taken_call {F : Nat → Prop} {b : Nat} {y : Lay} {n : Nt} {w : World} (h : NK F b y n w) (c : Int) :
    Calls Try.prog 18 #[ptr b, .int .i64 c] w fun e w' => e = .returned (.string (mk (n.taken c))) ∧ ∃ m, w' = w.drewN m := by
  rcases at_cases n c with ⟨h1, -⟩ | ⟨i, k, rfl, hi, hk, h1⟩
  · have H1 := hid_of (find_none h h1)
    have e1 : n.taken c = [] := by unfold Nt.taken; rw [h1]; rfl
    rw [e1]
    clear h h1 e1
    go_enter Try.func18, Try.ntmps18
    go_wp2_with fail
    refine H1.out.mono ?_
    rintro e w1 ⟨rfl, rfl⟩
    go_wp2_with fail
    go_ret
    exact ⟨rfl, 0, rfl⟩
  · have H1 := hid_of (find_some h hi)
    have q := h.fl i k hk
    have ok := h.ok.all k (List.mem_of_getElem? hk)
    have H2 := hid_of (passed_call (y.pos i) 3 (y.tv i true) k.wrote k.tk w ok.tk (Lib.cell_of_heap q.blk 3) (Lib.cell_of_heap q.blk 4) q.outr)
    have e1 : n.taken (i : Int) = k.wrote.take k.tk := by unfold Nt.taken; rw [h1]; rfl
    rw [e1]
    clear h h1 e1 q ok
    go_enter Try.func18, Try.ntmps18
    go_wp2_with fail
    refine H1.out.mono ?_
    rintro e w1 ⟨rfl, rfl⟩
    go_wp2_with fail
    refine H2.out.mono ?_
    rintro e w2 ⟨rfl, m, rfl⟩
    go_wp2_with fail
    go_ret
    exact ⟨rfl, m, rfl⟩
end Go.Proofs.Ythmfgnagpifnlaa.Calls3
