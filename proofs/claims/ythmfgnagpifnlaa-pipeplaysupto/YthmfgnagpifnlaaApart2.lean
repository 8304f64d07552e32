/- PipeApart, walked. -/
import Derived.Test.YthmfgnagpifnlaaApart
namespace Go.Proofs.Ythmfgnagpifnlaa.Apart2
open Go.RowKit
open Go.Proofs.Ythmfgnagpifnlaa.PipeMath
open Go.Proofs.Ythmfgnagpifnlaa.Base
open Go.Proofs.Ythmfgnagpifnlaa.Queue
open Go.Proofs.Ythmfgnagpifnlaa.Queue2
open Go.Proofs.Ythmfgnagpifnlaa.Net
open Go.Proofs.Ythmfgnagpifnlaa.Connect
open Go.Proofs.Ythmfgnagpifnlaa.Calls
open Go.Proofs.Ythmfgnagpifnlaa.Calls3
open Go.Proofs.Ythmfgnagpifnlaa.Sure
open Go.Proofs.Ythmfgnagpifnlaa.Line
open Go.Proofs.Ythmfgnagpifnlaa.Done
open Go.Proofs.Ythmfgnagpifnlaa.Ops
open Go.Proofs.Ythmfgnagpifnlaa.Apart
set_option linter.unusedVariables false

set_option maxHeartbeats 2000000 in
set_option maxRecDepth 100000 in
theorem law_bad (c : Int) (hc : c < 1 ∨ 1048576 < c) (v : Value) (w : World) : Calls Try.prog 6 #[.int .i64 c, v] w fun e w' => e = .returned (.bool true) ∧ Below w.heap.size w w' := by
  have A := hid_of (fun W => new_no c hc W)
  have H8 := hid_of (fun W => fit_call c W)
  rw [if_pos hc] at H8
  have S := hid_of sure_call
  clear hc
  go_enter Try.func6, Try.ntmps6
  go_wp2_with fail
  refine (A.out _).mono ?_
  rintro e w1 ⟨rfl, rfl⟩
  go_wp2_with fail
  refine (A.out _).mono ?_
  rintro e w2 ⟨rfl, rfl⟩
  go_wp2_with fail
  refine (H8.out _).mono ?_
  rintro e w3 ⟨rfl, rfl⟩
  go_wp2_with fail
  refine (S.out _).mono ?_
  rintro e w4 ⟨rfl, b4⟩
  go_wp2_with fail
  go_ret
  exact ⟨rfl, b4⟩
structure AI (B b2 : Nat) (l : List POp) (k : Nat) (w wr : World) : Prop where
  ex : ∃ na nb, Two B B b2 na nb w wr ∧ Tw na nb ∧ Big na (dt (l.take k)) ∧ Big nb (dt (l.take k))
def n0 (N : Nat) : Nt := ⟨N, [], 0⟩
def n1 (N : Nat) : Nt := ⟨N, [cn0], 0⟩
def n2 (N : Nat) : Nt := ⟨N, [cn0], 1⟩
theorem st1 (N : Nat) : (n0 N).connect = (n1 N, 0, 0) := rfl
theorem st2 (N : Nat) : (n1 N).accept = (n2 N, 0, true) := rfl
theorem tw0 (N : Nat) : Tw (n2 N) (n2 N) := ⟨rfl, rfl, ⟨cn0, rfl⟩, Nat.le_refl _, Nat.le_refl _⟩
theorem big0 (N : Nat) : Big (n2 N) 0 := ⟨fun k hk => by
  have : k = cn0 := by simpa [n2] using hk
  rw [this]
  exact ⟨Nat.le_refl _, Nat.le_refl _⟩⟩
theorem two0 {w w1 w2 : World} {N b2 : Nat} (h1 : Has (fun k => k = w.heap.size) w.heap.size (n0 N) w1) (l1 : Below w.heap.size w w1) (hs : w.heap.size < w1.heap.size) (e2 : b2 = w1.heap.size) (h2 : Has (fun k => k = w1.heap.size) w1.heap.size (n0 N) w2) (l2 : Below w1.heap.size w1 w2) : Two w.heap.size w.heap.size b2 (n0 N) (n0 N) w w2 := by
  subst e2
  have q1 := has_keep (G := fun _ => False) h1 (Fr.of_below l2) (fun _ _ e => e)
  have h2' := has_low h2
  refine ⟨⟨_, _, q1, h2', fun k e e2 => by have := e2.1; omega, fun k e => ?_, fun k e => ⟨by have := e.1; omega, e.2⟩⟩, Nat.le_trans (Nat.le_of_lt hs) l2.size, l1.trans (l2.mono (Nat.le_of_lt hs))⟩
  subst e
  exact ⟨Nat.le_refl _, Nat.lt_of_lt_of_le hs l2.size⟩
theorem has_lt {F : Nat → Prop} {b : Nat} {n : Nt} {w : World} (h : Has F b n w) : b < w.heap.size := by
  obtain ⟨y, h⟩ := h
  exact lt_of h.net
/- a call on the first one behind a box that was made for it -/
theorem callBox {base a b : Nat} {na nb na' : Nt} {w0 w : World} {f : FuncId} {args : Array Value} {P : Ending → Prop} (h : Two base a b na nb w0 w) (o : Obj)
    (hc : ∀ F y, NK F a y na (w.alloc o) → Calls Try.prog f args (w.alloc o) fun e w' => P e ∧ Has (Gr F (w.alloc o)) a na' w' ∧ Fr F (w.alloc o) w') : Calls Try.prog f args (w.alloc o) fun e w' => P e ∧ Two base a b na' nb w0 w' ∧ w'.heap[w.heap.size]? = some o := by
  obtain ⟨Fa, Fb, ⟨y, h1⟩, h2, h3, h4, h5⟩ := h.two
  have hs : (w.alloc o).heap.size = w.heap.size + 1 := by simp
  have hb : Below w.heap.size w (w.alloc o) := (Below.refl _ w).alloc (Nat.le_refl _) o
  refine (hc Fa y (h1.alloc o)).mono fun e w' ⟨p, q, f⟩ => ⟨p, ⟨⟨fun k => Gr Fa (w.alloc o) k ∧ k < w'.heap.size, Fb, has_low q, has_keep (has_keep (G := fun _ => False) h2 (Fr.of_below hb) (fun _ _ e => e)) f (fun k e e2 => h3 k e2 e), fun k e e2 => ?_, fun k e => ⟨?_, e.2⟩, fun k e => ⟨(h5 k e).1, by have := f.size; have := (h5 k e).2; omega⟩⟩, Nat.le_trans h.low (Nat.le_trans hb.size f.size), (h.bl.trans (hb.mono h.low)).trans (f.below (Nat.le_trans h.low hb.size) fun k e => (h4 k e).1)⟩, ?_⟩
  · rcases e.1 with e1 | e1
    · exact h3 k e1 e2
    · have := (h5 k e2).2; omega
  · rcases e.1 with e1 | e1
    · exact (h4 k e1).1
    · exact Nat.le_trans h.low (by omega)
  · rw [f.block w.heap.size (by omega) (fun e => by have := (h4 _ e).2; omega)]
    exact heap_alloc_new w o
theorem ai_left {B b2 : Nat} {l : List POp} {k : Nat} {w wr : World} {na nb : Nt} {o : POp} (hk : k < l.length) (ho : l[k] = o) (t : Two B B b2 (na.did o) nb w wr) (tw : Tw na nb) (h : o.kind = 0 ∨ o.kind = 5 ∨ o.conn ≠ 0) (ba : Big na (dt (l.take k))) (bb : Big nb (dt (l.take k))) : AI B b2 l (k + 1) w wr := by
  refine ⟨_, _, t, tw.left h, ?_, ?_⟩
  · rw [dt_take l k hk, ho]; exact did_big ba o
  · rw [dt_take l k hk]; exact bb.mono (Nat.le_add_right _ _)
theorem ai_both {B b2 : Nat} {l : List POp} {k : Nat} {w wr : World} {na nb : Nt} {o : POp} (hk : k < l.length) (ho : l[k] = o) (t : Two B B b2 (na.did o) (nb.did o) w wr) (tw : Tw (na.did o) (nb.did o)) (ba : Big na (dt (l.take k))) (bb : Big nb (dt (l.take k))) : AI B b2 l (k + 1) w wr := by
  refine ⟨_, _, t, tw, ?_, ?_⟩
  · rw [dt_take l k hk, ho]; exact did_big ba o
  · rw [dt_take l k hk, ho]; exact did_big bb o
set_option maxHeartbeats 4000000 in
set_option maxRecDepth 100000 in
theorem law_good (N : Nat) (h1 : 1 ≤ N) (h2 : N ≤ 1048576) (a0 : Option Addr) (cap : Nat) (l : List POp) (w : World) (hO : OpSl w (.slice a0 l.length cap) l) (hwt : wt l ≤ 1048576) : Calls Try.prog 6 #[.int .i64 (N : Int), .slice a0 l.length cap] w fun e w' => e = .returned (.bool true) ∧ Below w.heap.size w w' := by
  have A := hid_of (fun W => new_yes N h1 h2 W)
  have S := hid_of sure_call
  obtain ⟨B, hB⟩ : ∃ B, B = w.heap.size := ⟨_, rfl⟩
  have HB := hid_of hB
  have hlen := Nat.le_trans (wt_len l) hwt
  have hdt := Nat.le_trans (dt_le l) hwt
  have HO : Hid (l = [] ∨ ∃ g o, a0 = some ⟨g, o, none⟩ ∧ g < B ∧ OpAt w g o l) := by
    obtain ⟨a, cp, e, h⟩ := hO
    cases e
    rcases h with h | ⟨g, o, e, hc⟩
    · exact Or.inl h
    · by_cases hl : l = []
      · exact Or.inl hl
      · refine Or.inr ⟨g, o, e, ?_, hc⟩
        have hp : 0 < l.length := List.length_pos_iff.2 hl
        have := World.block_lt_of_cell? w _ (hc 0 hp).1
        rw [hB]; exact this
  have HD := hid_of hdt
  clear hO hdt hwt
  rw [← hB]
  clear hB h1 h2
  go_enter Try.func6, Try.ntmps6
  go_wp2_with fail
  refine (A.out _).mono ?_
  rintro e w1 ⟨rfl, q1, l1⟩
  have L1 : Hid (w.heap.size < w1.heap.size) := has_lt q1
  have Q1 := hid_of (And.intro q1 l1)
  clear q1 l1
  rw [← HB.out]
  go_wp2_with fail
  refine (A.out _).mono ?_
  rintro e w2 ⟨rfl, q2, l2⟩
  obtain ⟨b2, hb2⟩ : ∃ b2, b2 = w1.heap.size := ⟨_, rfl⟩
  have X2 : Hid (Two B B b2 (n0 N) (n0 N) w w2) := by
    have := two0 (N := N) Q1.out.1 Q1.out.2 L1.out hb2 q2 l2
    rw [HB.out]
    exact this
  rw [← hb2]
  clear q2 l2 hb2
  go_wp2_with fail
  refine (X2.out.call fun F y k => connect_call k).mono ?_
  rintro e w3 ⟨rfl, t3, -⟩
  have X3 : Hid (Two B b2 B (n0 N) (n1 N) w w3) := t3.swap
  clear t3
  go_wp2_with fail
  refine (X3.out.call fun F y k => connect_call k).mono ?_
  rintro e w4 ⟨rfl, t4, -⟩
  have X4 : Hid (Two B B b2 (n1 N) (n1 N) w w4) := t4.swap
  clear t4
  go_wp2_with fail
  refine (X4.out.call (na' := n2 N) (P := fun e => e = .returned (.tuple #[.int .i64 0, .bool true])) fun F y k => (accept_call k).mono fun e w' ⟨p, q, f⟩ => ⟨p, ⟨y, q.mono fun _ e => Or.inl e⟩, f⟩).mono ?_
  rintro e w5 ⟨rfl, t5, -⟩
  have X5 : Hid (Two B b2 B (n1 N) (n2 N) w w5) := t5.swap
  clear t5
  go_wp2_with fail
  refine (X5.out.call (na' := n2 N) (P := fun e => e = .returned (.tuple #[.int .i64 0, .bool true])) fun F y k => (accept_call k).mono fun e w' ⟨p, q, f⟩ => ⟨p, ⟨y, q.mono fun _ e => Or.inl e⟩, f⟩).mono ?_
  rintro e w6 ⟨rfl, t6, -⟩
  have X6 : Hid (AI B b2 l 0 w w6) := ⟨n2 N, n2 N, t6.swap, tw0 N, big0 N, big0 N⟩
  clear t6
  go_wp2_with fail
  go_loopg [9] l.length (fun g s9 wx => ∃ k : Nat, k ≤ l.length ∧ l.length ≤ k + g ∧ s9 = .int .i64 k ∧ Hid (AI B b2 l k w wx))
  case atStart => exact ⟨0, by omega, by omega, rfl, X6⟩
  case round =>
    obtain ⟨k, hk, hg, rfl, R⟩ := hrel
    by_cases hlt : k < l.length
    · obtain ⟨g', rfl⟩ : ∃ g', gk = g' + 1 := ⟨gk - 1, by omega⟩
      have hor : ∃ g o, a0 = some ⟨g, o, none⟩ ∧ g < B ∧ OpAt w g o l := by
        rcases HO.out with h | h
        · rw [h] at hlt; simp at hlt
        · exact h
      obtain ⟨q, o, rfl, hq, hop⟩ := hor
      obtain ⟨na, nb, T, tw, ba, bb⟩ := R.out.ex
      have hopr := op_later hop (T.bl.block q hq) k hlt
      obtain ⟨c0, c1, c2, c3⟩ := hopr
      obtain ⟨kd, cn, nm, s, hop2⟩ : ∃ kd cn nm s, l[k] = ⟨kd, cn, nm, bs s⟩ := ⟨_, _, _, mk (l[k]).data, rfl⟩
      rw [hop2] at c0 c1 c2 c3
      dsimp only at c0 c1 c2 c3
      rw [mk_bs] at c3
      have gi : ((k : Int)) < (l.length : Int) := by omega
      have TT := hid_of T
      have hss : dt (l.take k) + s.size ≤ 1048576 := by
        have h1 := dt_take l k hlt
        have h2 := dt_le_all l (k + 1)
        have h3 := HD.out
        rw [hop2] at h1
        dsimp only at h1
        rw [len_bs] at h1
        omega
      have D1 := hid_of (callBox T (.cells #[.int .i64 kd, .int .i64 cn, .int .i64 nm, .string s] 35) fun F y q => done_call q kd cn nm s (dt (l.take k)) ba (by omega))
      have HK := hid_of hop2
      clear T hop hop2
      have hways : (kd = 0 ∨ kd = 5) ∨ ((kd == 0) = false ∧ (kd == 5) = false ∧ (cn == 0) = false) ∨ ((kd == 0) = false ∧ (kd == 5) = false ∧ cn = 0) := by
        simp only [beq_eq_false_iff_ne]
        omega
      rcases hways with hkd | ⟨k0, k5, kc⟩ | ⟨k0, k5, rfl⟩
      · rcases hkd with rfl | rfl
        all_goals
          go_wp2_with fail
          refine D1.out.mono ?_
          rintro e w7 ⟨rfl, t7, -⟩
          have X7 : Hid (AI B b2 l (k + 1) w w7) := by first | exact ai_left hlt HK.out t7 tw (Or.inl rfl) ba bb | exact ai_left hlt HK.out t7 tw (Or.inr (Or.inl rfl)) ba bb
          clear t7
          go_wp2_with fail
          go_roundg g'
          case measure => omega
          case rel => exact ⟨k + 1, by omega, by omega, by simp, X7⟩
      · have HOR : Hid (kd = 0 ∨ kd = 5 ∨ cn ≠ 0) := Or.inr (Or.inr (by simpa using kc))
        go_wp2_with fail
        refine D1.out.mono ?_
        rintro e w7 ⟨rfl, t7, hbox⟩
        have X7 : Hid (AI B b2 l (k + 1) w w7) := ai_left hlt HK.out t7 tw HOR.out ba bb
        have d1 : w7.cell? ⟨wr.heap.size, 1, none⟩ = some (.int .i64 cn) := Lib.cell_of_heap hbox 1
        clear t7 hbox
        go_wp2_with fail
        go_roundg g'
        case measure => omega
        case rel => exact ⟨k + 1, by omega, by omega, by simp, X7⟩
      · have htw := tw.both (o := ⟨kd, 0, nm, bs s⟩) (by simpa using k0) (by simpa using k5) rfl
        obtain ⟨tw2, er, ew⟩ := htw
        obtain ⟨r, hr⟩ : ∃ r, r = mk (na.gotR ⟨kd, 0, nm, bs s⟩) := ⟨_, rfl⟩
        obtain ⟨x, hx⟩ : ∃ x, x = mk (na.gotW ⟨kd, 0, nm, bs s⟩) := ⟨_, rfl⟩
        rw [← hr, ← hx] at D1
        have HE : Hid (r = mk (nb.gotR ⟨kd, 0, nm, bs s⟩) ∧ x = mk (nb.gotW ⟨kd, 0, nm, bs s⟩)) := ⟨by rw [hr, er], by rw [hx, ew]⟩
        have TW2 := hid_of tw2
        clear tw2 er ew hr hx
        go_wp2_with fail
        refine D1.out.mono ?_
        rintro e w7 ⟨rfl, t7, hbox⟩
        have d0 : w7.cell? ⟨wr.heap.size, 0, none⟩ = some (.int .i64 kd) := Lib.cell_of_heap hbox 0
        have d1 : w7.cell? ⟨wr.heap.size, 1, none⟩ = some (.int .i64 0) := Lib.cell_of_heap hbox 1
        have d2 : w7.cell? ⟨wr.heap.size, 2, none⟩ = some (.int .i64 nm) := Lib.cell_of_heap hbox 2
        have d3 : w7.cell? ⟨wr.heap.size, 3, none⟩ = some (.string s) := Lib.cell_of_heap hbox 3
        have D2 := hid_of (t7.swap.call fun F y q => done_call q kd 0 nm s (dt (l.take k)) bb (by omega))
        rw [← HE.out.1, ← HE.out.2] at D2
        clear t7 hbox
        go_wp2_with fail
        refine D2.out.mono ?_
        rintro e w8 ⟨rfl, t8, -⟩
        have X8 : Hid (AI B b2 l (k + 1) w w8) := ai_both hlt HK.out t8.swap TW2.out ba bb
        clear t8
        go_wp2_with fail
        go_roundg g'
        case measure => omega
        case rel => exact ⟨k + 1, by omega, by omega, by simp, X8⟩
    · obtain ⟨na, nb, T, tw, ba, bb⟩ := R.out.ex
      have gi : ¬ ((k : Int)) < (l.length : Int) := by omega
      have hd1 : dt (l.take k) ≤ 140737488355328 := by have := dt_le_all l k; have := HD.out; omega
      obtain ⟨kk, hkk⟩ := tw.one
      have hkb : nb.at 0 = some kk := tw.same ▸ hkk
      have za : ∀ k, na.at 0 = some k → k.wrote.length ≤ 140737488355328 ∧ k.sent.length ≤ 140737488355328 := fun k e => by have := ba.at e; omega
      have zb : ∀ k, nb.at 0 = some k → k.wrote.length ≤ 140737488355328 ∧ k.sent.length ≤ 140737488355328 := fun k e => by have := bb.at e; omega
      have LA := hid_of (fun W (T : Two B B b2 na nb w W) => T.ask (f := 15) (args := #[ptr B, .int .i64 0]) fun F y q => line_call q 0 za)
      have LB := hid_of (fun W (T : Two B B b2 na nb w W) => T.swap.ask (f := 15) (args := #[ptr b2, .int .i64 0]) fun F y q => line_call q 0 zb)
      have eA : lineV na 0 = .agg (lineC kk) ∧ lineE na 0 = 0 := by unfold lineV lineE; rw [hkk]; exact ⟨rfl, rfl⟩
      have eB : lineV nb 0 = .agg (lineC kk) ∧ lineE nb 0 = 0 := by unfold lineV lineE; rw [hkb]; exact ⟨rfl, rfl⟩
      rw [eA.1, eA.2] at LA
      rw [eB.1, eB.2] at LB
      have SA := hid_of (fun W (T : Two B B b2 na nb w W) => T.ask (f := 17) (args := #[ptr B, .int .i64 0]) fun F y q => sent_call q 0)
      have SB := hid_of (fun W (T : Two B B b2 na nb w W) => T.swap.ask (f := 17) (args := #[ptr b2, .int .i64 0]) fun F y q => sent_call q 0)
      have TA := hid_of (fun W (T : Two B B b2 na nb w W) => T.ask (f := 18) (args := #[ptr B, .int .i64 0]) fun F y q => taken_call q 0)
      have TB := hid_of (fun W (T : Two B B b2 na nb w W) => T.swap.ask (f := 18) (args := #[ptr b2, .int .i64 0]) fun F y q => taken_call q 0)
      have RA := hid_of (fun W (T : Two B B b2 na nb w W) => T.ask (f := 20) (args := #[ptr B, .int .i64 0]) fun F y q => room_call q 0 fun k e => (za k e).1)
      have RB := hid_of (fun W (T : Two B B b2 na nb w W) => T.swap.ask (f := 20) (args := #[ptr b2, .int .i64 0]) fun F y q => room_call q 0 fun k e => (zb k e).1)
      rw [tw.sentA] at SA
      rw [tw.taken] at TA
      rw [tw.room] at RA
      obtain ⟨st, hst⟩ : ∃ st, st = mk (nb.sentA 0) := ⟨_, rfl⟩
      obtain ⟨tk, htk⟩ : ∃ tk, tk = mk (nb.taken 0) := ⟨_, rfl⟩
      obtain ⟨rm, hrm⟩ : ∃ rm, rm = nb.room 0 := ⟨_, rfl⟩
      rw [← hst] at SA SB
      rw [← htk] at TA TB
      rw [← hrm] at RA RB
      obtain ⟨u0, hu0⟩ : ∃ u0 : Int, u0 = ((if kk.shut then 0 else kk.unread : Nat) : Int) := ⟨_, rfl⟩
      obtain ⟨u1, hu1⟩ : ∃ u1 : Int, u1 = (kk.left : Int) := ⟨_, rfl⟩
      unfold lineC at LA LB
      rw [← hu0, ← hu1] at LA LB
      have TT := hid_of T
      clear T eA eB hst htk hrm hu0 hu1 za zb hkk hkb
      go_wp2_with fail
      refine (LA.out _ TT.out).mono ?_
      rintro e w7 ⟨rfl, b7⟩
      have T7 := hid_of (TT.out.below b7)
      clear b7
      go_wp2_with fail
      have T8 := hid_of (T7.out.alloc (.cells #[.int .i64 u0, .int .i64 u1, .bool false, .bool kk.closed, .bool kk.ended, .bool kk.cut] 46))
      refine (LB.out _ T8.out).mono ?_
      rintro e w8 ⟨rfl, b8⟩
      have T9 := hid_of (T8.out.below b8)
      have hz : w7.heap.size < w8.heap.size := by have := b8.size; simp at this; omega
      have hbx : w8.heap[w7.heap.size]? = some (.cells #[.int .i64 u0, .int .i64 u1, .bool false, .bool kk.closed, .bool kk.ended, .bool kk.cut] 46 (0, 0)) := (b8.block _ (by simp)).trans (heap_alloc_new w7 _)
      have x0 : w8.cell? ⟨w7.heap.size, 0, none⟩ = some (.int .i64 u0) := Lib.cell_of_heap hbx 0
      have x1 : w8.cell? ⟨w7.heap.size, 1, none⟩ = some (.int .i64 u1) := Lib.cell_of_heap hbx 1
      have x2 : w8.cell? ⟨w7.heap.size, 2, none⟩ = some (.bool false) := Lib.cell_of_heap hbx 2
      have x3 : w8.cell? ⟨w7.heap.size, 3, none⟩ = some (.bool kk.closed) := Lib.cell_of_heap hbx 3
      have x4 : w8.cell? ⟨w7.heap.size, 4, none⟩ = some (.bool kk.ended) := Lib.cell_of_heap hbx 4
      have x5 : w8.cell? ⟨w7.heap.size, 5, none⟩ = some (.bool kk.cut) := Lib.cell_of_heap hbx 5
      clear b8 hbx
      go_wp2_with fail
      have T10 := hid_of (T9.out.alloc (.cells #[.int .i64 u0, .int .i64 u1, .bool false, .bool kk.closed, .bool kk.ended, .bool kk.cut] 46))
      refine (SA.out _ T10.out).mono ?_
      rintro e w9 ⟨rfl, rfl⟩
      go_wp2_with fail
      refine (SB.out _ T10.out).mono ?_
      rintro e w10 ⟨rfl, rfl⟩
      go_wp2_with fail
      refine (TA.out _ T10.out).mono ?_
      rintro e w11 ⟨rfl, m1, rfl⟩
      go_wp2_with fail
      refine (TB.out _ (T10.out.drewN m1)).mono ?_
      rintro e w12 ⟨rfl, m2, rfl⟩
      go_wp2_with fail
      refine (RA.out _ (T10.out.drewN (m1 + m2))).mono ?_
      rintro e w13 ⟨rfl, m3, rfl⟩
      go_wp2_with fail
      refine (RB.out _ (T10.out.drewN (m1 + m2 + m3))).mono ?_
      rintro e w14 ⟨rfl, m4, rfl⟩
      go_wp2_with fail
      refine (S.out _).mono ?_
      rintro e w15 ⟨rfl, b15⟩
      have B15 := hid_of b15
      clear b15
      go_wp2_with fail
      go_ret
      have t := T10.out.drewN (m1 + m2 + m3 + m4)
      exact ⟨rfl, t.bl.trans (B15.out.mono t.low)⟩
theorem law_call (c : Int) (a0 : Option Addr) (cap : Nat) (l : List POp) (w : World) (hO : OpSl w (.slice a0 l.length cap) l) (hwt : wt l ≤ 1048576) : Calls Try.prog 6 #[.int .i64 c, .slice a0 l.length cap] w fun e w' => e = .returned (.bool true) ∧ Below w.heap.size w w' := by
  by_cases h : c < 1 ∨ 1048576 < c
  · exact law_bad c h _ w
  · obtain ⟨N, rfl⟩ : ∃ N : Nat, c = (N : Int) := ⟨c.toNat, by omega⟩
    exact law_good N (by omega) (by omega) a0 cap l w hO hwt
end Go.Proofs.Ythmfgnagpifnlaa.Apart2
