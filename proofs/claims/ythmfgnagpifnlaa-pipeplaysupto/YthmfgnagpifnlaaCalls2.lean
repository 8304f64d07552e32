/- Cut, Read, Write, Room, Sent, Taken, Line. -/
import Derived.Test.YthmfgnagpifnlaaCalls
namespace Go.Proofs.Ythmfgnagpifnlaa.Calls2
open Go.RowKit
open Go.Proofs.Ythmfgnagpifnlaa.PipeMath
open Go.Proofs.Ythmfgnagpifnlaa.Base
open Go.Proofs.Ythmfgnagpifnlaa.Queue
open Go.Proofs.Ythmfgnagpifnlaa.Queue2
open Go.Proofs.Ythmfgnagpifnlaa.Drop
open Go.Proofs.Ythmfgnagpifnlaa.Net
open Go.Proofs.Ythmfgnagpifnlaa.Calls
set_option linter.unusedVariables false

set_option maxHeartbeats 1000000 in
set_option maxRecDepth 100000 in
theorem cut_call {F : Nat → Prop} {b : Nat} {y : Lay} {n : Nt} {w : World} (h : NK F b y n w) (c : Int) (hz : ∀ k, n.at c = some k → k.wrote.length ≤ 140737488355328) :
    Calls Try.prog 30 #[ptr b, .int .i64 c] w fun e w' => e = .returned (.int .i64 (n.cutC c).2) ∧ Has (Gr F w) b (n.cutC c).1 w' ∧ Fr F w w' := by
  have H1 := hid_of (whole_call h c)
  have hok := cutC_ok h.ok c
  by_cases he : n.wholeE c = 0
  · obtain ⟨i, k, rfl, hk, hat⟩ := whole_some he
    have e1 : n.cutC (i : Int) = ({ n with cs := n.cs.set i k.off }, 0) := by unfold Nt.cutC; rw [if_pos he, mod_some hat]
    rw [e1] at hok ⊢
    rw [he, pv_zero] at H1
    have q := h.fl i k hk
    have ok := h.ok.all k (List.mem_of_getElem? hk)
    have hil : i < n.cs.length := (List.getElem?_eq_some_iff.1 hk).1
    have c6 : w.cell? ⟨y.pos i, 6, none⟩ = some (.bool k.cut) := by rw [Lib.cell_of_heap q.blk]; rfl
    have f6 : w.frozen? ⟨y.pos i, 6, none⟩ = false := Lib.frozen_of_heap q.blk 6
    have b1 : (w.setCell ⟨y.pos i, 6, none⟩ (.bool true)).heap[y.pos i]? = some (.cells (cnCells (y.tv i false) (y.tv i true) { k with cut := true }) 82 (0, 0)) := set_at q.blk _
    have hr1 : (w.setCell ⟨y.pos i, 6, none⟩ (.bool true)).ownsRow 0 5 1 (y.tv i true) k.wrote.length (tx k.wrote) := row_later q.outr fun g hg => by
      obtain ⟨cur, hc⟩ := row_kd q.outr hg
      exact set_ne (kinds hc q.blk (by decide)) _
    have H2 := hid_of (drop_call (y.pos i) 3 _ (y.tv i true) k.wrote k.tk (w.setCell ⟨y.pos i, 6, none⟩ (.bool true)) b1 rfl rfl ok.tk (hz k hat) hr1)
    have H := hid_of h
    have HK := hid_of hok
    clear h hz he hat e1 q hok ok b1 hr1
    go_enter Try.func30, Try.ntmps30
    go_wp2_with fail
    refine H1.out.mono ?_
    rintro e w1 ⟨rfl, rfl⟩
    go_wp2_with fail
    refine H2.out.mono ?_
    rintro e w2 ⟨rfl, v', hb, hr, hn, hf⟩
    have HQ := hid_of (And.intro hb (And.intro hr (And.intro hn hf)))
    clear hb hr hn hf
    go_wp2_with fail
    go_ret
    obtain ⟨hb, hr, hn, hf⟩ := HQ.out
    rw [size_set] at hn
    have q := H.out.fl i k hk
    have hff : ∀ a, a < w1.heap.size → a ≠ y.pos i → (y.tv i true).ownBlock ≠ some a → w2.heap[a]? = w1.heap[a]? := fun a ha h1 h2 => (hf.block a (by rw [size_set]; exact ha) (fun e => e.elim h1 h2)).trans (set_ne h1 _)
    have hsz : w1.heap.size ≤ w2.heap.size := by have := hf.size; rw [size_set] at this; exact this
    refine ⟨rfl, ⟨_, H.out.turn hk (iv := y.tv i false) (ov := v') (fun a ha hne h1 h2 => hff a ha hne h2) hsz hb (row_later q.inr fun g hg => ?_) hr (fun g e => Or.inl e) (fun g e => Or.inr (hn g e)) (fun g e e2 => ?_) HK.out⟩, ?_⟩
    · obtain ⟨cur, hc⟩ := row_kd q.inr hg
      exact hff g (lt_of hc) (kinds hc q.blk (by decide)) (H.out.apart i false i true g hil hil (by simp) hg)
    · have := hn g e2
      obtain ⟨cur, hc⟩ := row_kd q.inr e
      have := lt_of hc
      omega
    · refine (Fr.set q.own _).trans (hf.mono fun a ha e => ?_)
      rcases e with rfl | e
      · exact Or.inl q.own
      · exact Or.inl (q.oown a e)
  · have e1 : n.cutC c = (n, n.wholeE c) := by unfold Nt.cutC; rw [if_neg he]
    rw [e1]
    rw [pv_not _ _ _ he] at H1
    have H := hid_of h
    clear h he e1 hok hz
    go_enter Try.func30, Try.ntmps30
    go_wp2_with fail
    refine H1.out.mono ?_
    rintro e w1 ⟨rfl, rfl⟩
    go_wp2_with fail
    go_ret
    exact ⟨rfl, ⟨y, H.out.mono fun _ e => Or.inl e⟩, Fr.refl _ _⟩
set_option maxHeartbeats 1000000 in
set_option maxRecDepth 100000 in
theorem read_call {F : Nat → Prop} {b : Nat} {y : Lay} {n : Nt} {w : World} (h : NK F b y n w) (c m : Int) (hz : ∀ k, n.at c = some k → k.sent.length ≤ 140737488355328) :
    Calls Try.prog 22 #[ptr b, .int .i64 c, .int .i64 m] w fun e w' => e = .returned (.tuple #[.string (mk (n.read c m).2.1), .bool (n.read c m).2.2.1, .int .i64 (n.read c m).2.2.2]) ∧ Has (Gr F w) b (n.read c m).1 w' ∧ Fr F w w' := by
  have H1 := hid_of (serving_call h c)
  have hok := read_ok h.ok c m
  by_cases he : n.serveE c = 0
  · obtain ⟨i, k, rfl, hk, hat⟩ := serve_some he
    have e1 : n.read (i : Int) m = ({ n with cs := n.cs.set i (k.readOn m) }, k.reads m, k.ended && decide ((k.readOn m).unread = 0), 0) := by unfold Nt.read; rw [if_pos he, mod_some hat, hat]; rfl
    rw [e1] at hok ⊢
    rw [he, pv_zero] at H1
    have q := h.fl i k hk
    have ok := h.ok.all k (List.mem_of_getElem? hk)
    have hzk := hz k hat
    have ok2 := Cn.readOn_ok m ok
    have H2 := hid_of (pass_call (y.pos i) 0 _ (y.tv i false) k.sent k.rd m w q.blk rfl rfl ok.rd hzk q.inr)
    have HN := hid_of (NK.flag h hk (k.readOn m) 1 (.int .i64 ((k.rd + cl m (k.sent.length - k.rd) : Nat) : Int)) rfl rfl rfl hok)
    have HB : Hid ((w.setCell ⟨y.pos i, 0 + 1, none⟩ (.int .i64 ((k.rd + cl m (k.sent.length - k.rd) : Nat) : Int))).heap[y.pos i]? = some (.cells (cnCells (y.tv i false) (y.tv i true) (k.readOn m)) 82 (0, 0))) := set_at q.blk _
    obtain ⟨a, cp, hv⟩ := row_shape q.inr
    have H3 := hid_of (fun W (h0 : W.cell? ⟨y.pos i, 0, none⟩ = some (.slice a k.sent.length cp)) (h1' : W.cell? ⟨y.pos i, 0 + 1, none⟩ = some (.int .i64 ((k.readOn m).rd : Int))) => left_call (y.pos i) 0 a k.sent.length cp (k.readOn m).rd W ok2.rd (by omega) h0 h1')
    have e2 : k.sent.length - (k.readOn m).rd = (k.readOn m).unread := rfl
    rw [e2] at H3
    obtain ⟨U, hU⟩ : ∃ U, U = (k.readOn m).unread := ⟨_, rfl⟩
    rw [← hU] at H3 ⊢
    show Calls Try.prog 22 #[ptr b, .int .i64 (i : Int), .int .i64 m] w fun e w' => e = .returned (.tuple #[.string (mk ((k.sent.drop k.rd).take (cl m (k.sent.length - k.rd)))), .bool (k.ended && decide (U = 0)), .int .i64 0]) ∧ Has (Gr F w) b { n with cs := n.cs.set i (k.readOn m) } w' ∧ Fr F w w'
    have HV := hid_of hv
    clear h he hat e1 q hok hz ok ok2 hzk e2 hU hv
    cases hen : k.ended
    · go_enter Try.func22, Try.ntmps22
      go_wp2_with fail
      refine H1.out.mono ?_
      rintro e w1 ⟨rfl, rfl⟩
      go_wp2_with fail
      refine H2.out.mono ?_
      rintro e w2 ⟨rfl, lk⟩
      have b2 : w2.heap[y.pos i]? = _ := (by rw [lk.heap] : w2.heap[y.pos i]? = _).trans HB.out
      have c2 : w2.cell? ⟨y.pos i, 2, none⟩ = some (.bool false) := by rw [Lib.cell_of_heap b2, ← hen]; rfl
      have L := hid_of lk
      clear b2 lk
      go_wp2_with fail
      refine bodyPost_ret (v := .tuple #[.string (mk ((k.sent.drop k.rd).take (cl m (k.sent.length - k.rd)))), .bool false, .int .i64 0]) (by simp [results, Try.results22, go_sem]) rfl ⟨rfl, like_has HN.out.1 L.out, Lk.fr HN.out.2 L.out⟩
    · by_cases hu : U = 0
      · have g1 : ((U : Int) == 0) = true := by simp [hu]
        rw [decide_eq_true hu]
        clear hu
        go_enter Try.func22, Try.ntmps22
        go_wp2_with fail
        refine H1.out.mono ?_
        rintro e w1 ⟨rfl, rfl⟩
        go_wp2_with fail
        refine H2.out.mono ?_
        rintro e w2 ⟨rfl, lk⟩
        have b2 : w2.heap[y.pos i]? = _ := (by rw [lk.heap] : w2.heap[y.pos i]? = _).trans HB.out
        have c2 : w2.cell? ⟨y.pos i, 2, none⟩ = some (.bool true) := by rw [Lib.cell_of_heap b2, ← hen]; rfl
        have c0 : w2.cell? ⟨y.pos i, 0, none⟩ = some (.slice a k.sent.length cp) := by rw [Lib.cell_of_heap b2, ← HV.out]; rfl
        have c1 : w2.cell? ⟨y.pos i, 0 + 1, none⟩ = some (.int .i64 ((k.readOn m).rd : Int)) := by rw [Lib.cell_of_heap b2]; rfl
        have L := hid_of lk
        have H4 := hid_of (H3.out w2 c0 c1)
        clear b2 lk c0 c1
        go_wp2_with fail
        refine H4.out.mono ?_
        rintro e w3 ⟨rfl, m3, rfl⟩
        go_wp2_with fail
        refine bodyPost_ret (v := .tuple #[.string (mk ((k.sent.drop k.rd).take (cl m (k.sent.length - k.rd)))), .bool true, .int .i64 0]) (by simp [results, Try.results22, go_sem]) rfl ⟨rfl, like_has (like_has HN.out.1 L.out) ⟨rfl, rfl, rfl, rfl⟩, Lk.fr (Lk.fr HN.out.2 L.out) ⟨rfl, rfl, rfl, rfl⟩⟩
      · have g1 : ((U : Int) == 0) = false := by simpa using hu
        rw [decide_eq_false hu]
        clear hu
        go_enter Try.func22, Try.ntmps22
        go_wp2_with fail
        refine H1.out.mono ?_
        rintro e w1 ⟨rfl, rfl⟩
        go_wp2_with fail
        refine H2.out.mono ?_
        rintro e w2 ⟨rfl, lk⟩
        have b2 : w2.heap[y.pos i]? = _ := (by rw [lk.heap] : w2.heap[y.pos i]? = _).trans HB.out
        have c2 : w2.cell? ⟨y.pos i, 2, none⟩ = some (.bool true) := by rw [Lib.cell_of_heap b2, ← hen]; rfl
        have c0 : w2.cell? ⟨y.pos i, 0, none⟩ = some (.slice a k.sent.length cp) := by rw [Lib.cell_of_heap b2, ← HV.out]; rfl
        have c1 : w2.cell? ⟨y.pos i, 0 + 1, none⟩ = some (.int .i64 ((k.readOn m).rd : Int)) := by rw [Lib.cell_of_heap b2]; rfl
        have L := hid_of lk
        have H4 := hid_of (H3.out w2 c0 c1)
        clear b2 lk c0 c1
        go_wp2_with fail
        refine H4.out.mono ?_
        rintro e w3 ⟨rfl, m3, rfl⟩
        go_wp2_with fail
        refine bodyPost_ret (v := .tuple #[.string (mk ((k.sent.drop k.rd).take (cl m (k.sent.length - k.rd)))), .bool false, .int .i64 0]) (by simp [results, Try.results22, go_sem]) rfl ⟨rfl, like_has (like_has HN.out.1 L.out) ⟨rfl, rfl, rfl, rfl⟩, Lk.fr (Lk.fr HN.out.2 L.out) ⟨rfl, rfl, rfl, rfl⟩⟩
  · have e1 : n.read c m = (n, [], false, n.serveE c) := by unfold Nt.read; rw [if_neg he]
    rw [e1]
    rw [pv_not _ _ _ he] at H1
    have H := hid_of h
    clear h he e1 hok hz
    go_enter Try.func22, Try.ntmps22
    go_wp2_with fail
    refine H1.out.mono ?_
    rintro e w1 ⟨rfl, rfl⟩
    go_wp2_with fail
    refine bodyPost_ret (v := .tuple #[.string (mk []), .bool false, .int .i64 (n.serveE c)]) (by simp [results, Try.results22, go_sem, mk]) rfl ⟨rfl, ⟨y, H.out.mono fun _ e => Or.inl e⟩, Fr.refl _ _⟩
end Go.Proofs.Ythmfgnagpifnlaa.Calls2
