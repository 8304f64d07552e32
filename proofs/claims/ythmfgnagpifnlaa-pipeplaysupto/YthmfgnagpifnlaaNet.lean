/- The network's inner calls: find, sending, serving, whole, room; New, Connect, Conns, Accept. -/
import Derived.Test.YthmfgnagpifnlaaDrop
namespace Go.Proofs.Ythmfgnagpifnlaa.Net
open Go.RowKit
open Go.Proofs.Ythmfgnagpifnlaa.PipeMath
open Go.Proofs.Ythmfgnagpifnlaa.Base
open Go.Proofs.Ythmfgnagpifnlaa.Queue
open Go.Proofs.Ythmfgnagpifnlaa.Queue2
open Go.Proofs.Ythmfgnagpifnlaa.Drop
set_option linter.unusedVariables false

theorem row_at {F : Nat → Prop} {b : Nat} {y : Lay} {n : Nt} {w : World} (h : NK F b y n w) {i : Nat} (hi : i < n.cs.length) : ∃ g cap, y.cv = .slice (some ⟨g, 0, none⟩) n.cs.length cap ∧ w.cell? ⟨g, i, none⟩ = some (ptr (y.pos i)) := by
  have hr := h.row
  rcases h.row.2 with ⟨_, h0⟩ | ⟨g, cap, cur, e, _⟩
  · omega
  · refine ⟨g, cap, e, ?_⟩
    have := hr.cells (g := g) (by rw [e]; rfl) i (ptr (y.pos i)) (by simp [hi])
    rw [add_off, Nat.zero_add] at this
    exact this
set_option maxRecDepth 100000 in
theorem find_none {F : Nat → Prop} {b : Nat} {y : Lay} {n : Nt} {w : World} (h : NK F b y n w) {c : Int} (hc : n.at c = none) :
    Calls Try.prog 41 #[ptr b, .int .i64 c] w fun e w' => e = .returned (.tuple #[.pointer none, .int .i64 60]) ∧ w' = w := by
  have c1 : w.cell? ⟨b, 1, none⟩ = some y.cv := h.cell 1
  obtain ⟨a, cp, hv⟩ := row_shape h.row
  rw [hv] at c1
  have hcc : c < 0 ∨ (n.cs.length : Int) ≤ c := by
    rcases at_cases n c with ⟨_, h1⟩ | ⟨i, k, _, _, _, h1⟩
    · exact h1
    · rw [hc] at h1; cases h1
  clear h hc hv
  rcases hcc with h1 | h1
  · go_enter Try.func41, Try.ntmps41
    go_wp2_with fail
    go_ret2
    exact ⟨rfl, rfl⟩
  · have h2 : ¬ c < 0 := by omega
    go_enter Try.func41, Try.ntmps41
    go_wp2_with fail
    go_ret2
    exact ⟨rfl, rfl⟩
set_option maxRecDepth 100000 in
theorem find_some {F : Nat → Prop} {b : Nat} {y : Lay} {n : Nt} {w : World} (h : NK F b y n w) {i : Nat} (hi : i < n.cs.length) :
    Calls Try.prog 41 #[ptr b, .int .i64 (i : Int)] w fun e w' => e = .returned (.tuple #[ptr (y.pos i), .int .i64 0]) ∧ w' = w := by
  obtain ⟨g, cap, hv, hcell⟩ := row_at h hi
  have c1 : w.cell? ⟨b, 1, none⟩ = some y.cv := h.cell 1
  rw [hv] at c1
  have h1 : ¬ ((i : Int) < 0) := by omega
  have h2 : ¬ ((n.cs.length : Int) ≤ (i : Int)) := by omega
  have h3 : (i : Int) < (n.cs.length : Int) := by omega
  clear h hv
  go_enter Try.func41, Try.ntmps41
  go_wp2_with fail
  go_ret2
  exact ⟨rfl, rfl⟩
def pv (y : Lay) (c : Int) (e : Int) : Value := if e = 0 then ptr (y.pos c.toNat) else .pointer none
theorem cnb (iv ov : Value) (k : Cn) : (cnCells iv ov k)[2]? = some (.bool k.ended) ∧ (cnCells iv ov k)[5]? = some (.bool k.closed) ∧ (cnCells iv ov k)[6]? = some (.bool k.cut) := ⟨rfl, rfl, rfl⟩
set_option maxHeartbeats 1000000 in
set_option maxRecDepth 100000 in
theorem sending_call {F : Nat → Prop} {b : Nat} {y : Lay} {n : Nt} {w : World} (h : NK F b y n w) (c : Int) :
    Calls Try.prog 48 #[ptr b, .int .i64 c] w fun e w' => e = .returned (.tuple #[pv y c (n.sendE c), .int .i64 (n.sendE c)]) ∧ w' = w := by
  rcases at_cases n c with ⟨h1, -⟩ | ⟨i, k, rfl, hi, hk, h1⟩
  · have H1 := hid_of (find_none h h1)
    have e1 : n.sendE c = 60 := by unfold Nt.sendE; rw [h1]
    rw [e1]
    unfold pv
    rw [if_neg (by decide)]
    clear h h1 e1
    go_enter Try.func48, Try.ntmps48
    go_wp2_with fail
    refine H1.out.mono ?_
    rintro e w1 ⟨rfl, rfl⟩
    go_wp2_with fail
    go_ret2
    exact ⟨rfl, rfl⟩
  · have H1 := hid_of (find_some h hi)
    have q := h.fl i k hk
    have c2 : w.cell? ⟨y.pos i, 2, none⟩ = some (.bool k.ended) := by rw [Lib.cell_of_heap q.blk]; rfl
    have c5 : w.cell? ⟨y.pos i, 5, none⟩ = some (.bool k.closed) := by rw [Lib.cell_of_heap q.blk]; rfl
    have c6 : w.cell? ⟨y.pos i, 6, none⟩ = some (.bool k.cut) := by rw [Lib.cell_of_heap q.blk]; rfl
    have H2 := hid_of (shut_call (y.pos i) k.closed k.cut w c5 c6)
    have e1 : n.sendE (i : Int) = if k.ended || k.shut then 61 else 0 := by unfold Nt.sendE; rw [h1]
    have e2 : k.shut = (k.closed || k.cut) := rfl
    rw [e1, e2]
    obtain ⟨sh, hsh⟩ : ∃ sh, sh = (k.closed || k.cut) := ⟨_, rfl⟩
    rw [← hsh] at H2 ⊢
    clear h h1 e1 e2 q hsh
    cases he : k.ended
    · rw [he] at c2
      cases sh
      · show Calls Try.prog 48 #[ptr b, .int .i64 (i : Int)] w fun e w' => e = .returned (.tuple #[ptr (y.pos i), .int .i64 0]) ∧ w' = w
        go_enter Try.func48, Try.ntmps48
        go_wp2_with fail
        refine H1.out.mono ?_
        rintro e w1 ⟨rfl, rfl⟩
        go_wp2_with fail
        refine H2.out.mono ?_
        rintro e w2 ⟨rfl, rfl⟩
        go_wp2_with fail
        go_ret2
        exact ⟨rfl, rfl⟩
      · show Calls Try.prog 48 #[ptr b, .int .i64 (i : Int)] w fun e w' => e = .returned (.tuple #[.pointer none, .int .i64 61]) ∧ w' = w
        go_enter Try.func48, Try.ntmps48
        go_wp2_with fail
        refine H1.out.mono ?_
        rintro e w1 ⟨rfl, rfl⟩
        go_wp2_with fail
        refine H2.out.mono ?_
        rintro e w2 ⟨rfl, rfl⟩
        go_wp2_with fail
        go_ret2
        exact ⟨rfl, rfl⟩
    · rw [he] at c2
      have e3 : (if (true || sh) = true then (61 : Int) else 0) = 61 := by simp
      rw [e3]
      show Calls Try.prog 48 #[ptr b, .int .i64 (i : Int)] w fun e w' => e = .returned (.tuple #[.pointer none, .int .i64 61]) ∧ w' = w
      clear e3
      go_enter Try.func48, Try.ntmps48
      go_wp2_with fail
      refine H1.out.mono ?_
      rintro e w1 ⟨rfl, rfl⟩
      go_wp2_with fail
      go_ret2
      exact ⟨rfl, rfl⟩
set_option maxHeartbeats 1000000 in
set_option maxRecDepth 100000 in
theorem whole_call {F : Nat → Prop} {b : Nat} {y : Lay} {n : Nt} {w : World} (h : NK F b y n w) (c : Int) :
    Calls Try.prog 51 #[ptr b, .int .i64 c] w fun e w' => e = .returned (.tuple #[pv y c (n.wholeE c), .int .i64 (n.wholeE c)]) ∧ w' = w := by
  rcases at_cases n c with ⟨h1, -⟩ | ⟨i, k, rfl, hi, hk, h1⟩
  · have H1 := hid_of (find_none h h1)
    have e1 : n.wholeE c = 60 := by unfold Nt.wholeE; rw [h1]
    rw [e1]
    unfold pv
    rw [if_neg (by decide)]
    clear h h1 e1
    go_enter Try.func51, Try.ntmps51
    go_wp2_with fail
    refine H1.out.mono ?_
    rintro e w1 ⟨rfl, rfl⟩
    go_wp2_with fail
    go_ret2
    exact ⟨rfl, rfl⟩
  · have H1 := hid_of (find_some h hi)
    have q := h.fl i k hk
    have c6 : w.cell? ⟨y.pos i, 6, none⟩ = some (.bool k.cut) := by rw [Lib.cell_of_heap q.blk]; rfl
    have e1 : n.wholeE (i : Int) = if k.cut then 61 else 0 := by unfold Nt.wholeE; rw [h1]
    rw [e1]
    clear h h1 e1 q
    cases he : k.cut
    · rw [he] at c6
      show Calls Try.prog 51 #[ptr b, .int .i64 (i : Int)] w fun e w' => e = .returned (.tuple #[ptr (y.pos i), .int .i64 0]) ∧ w' = w
      go_enter Try.func51, Try.ntmps51
      go_wp2_with fail
      refine H1.out.mono ?_
      rintro e w1 ⟨rfl, rfl⟩
      go_wp2_with fail
      go_ret2
      exact ⟨rfl, rfl⟩
    · rw [he] at c6
      show Calls Try.prog 51 #[ptr b, .int .i64 (i : Int)] w fun e w' => e = .returned (.tuple #[.pointer none, .int .i64 61]) ∧ w' = w
      go_enter Try.func51, Try.ntmps51
      go_wp2_with fail
      refine H1.out.mono ?_
      rintro e w1 ⟨rfl, rfl⟩
      go_wp2_with fail
      go_ret2
      exact ⟨rfl, rfl⟩
set_option maxHeartbeats 1000000 in
set_option maxRecDepth 100000 in
theorem serving_call {F : Nat → Prop} {b : Nat} {y : Lay} {n : Nt} {w : World} (h : NK F b y n w) (c : Int) :
    Calls Try.prog 46 #[ptr b, .int .i64 c] w fun e w' => e = .returned (.tuple #[pv y c (n.serveE c), .int .i64 (n.serveE c)]) ∧ w' = w := by
  rcases at_cases n c with ⟨h1, -⟩ | ⟨i, k, rfl, hi, hk, h1⟩
  · have H1 := hid_of (find_none h h1)
    have e1 : n.serveE c = 60 := by unfold Nt.serveE; rw [h1]
    rw [e1]
    unfold pv
    rw [if_neg (by decide)]
    clear h h1 e1
    go_enter Try.func46, Try.ntmps46
    go_wp2_with fail
    refine H1.out.mono ?_
    rintro e w1 ⟨rfl, rfl⟩
    go_wp2_with fail
    go_ret2
    exact ⟨rfl, rfl⟩
  · have H1 := hid_of (find_some h hi)
    have q := h.fl i k hk
    have c5 : w.cell? ⟨y.pos i, 5, none⟩ = some (.bool k.closed) := by rw [Lib.cell_of_heap q.blk]; rfl
    have c6 : w.cell? ⟨y.pos i, 6, none⟩ = some (.bool k.cut) := by rw [Lib.cell_of_heap q.blk]; rfl
    have ca : w.cell? ⟨b, 2, none⟩ = some (.int .i64 n.acc) := h.cell 2
    have H2 := hid_of (shut_call (y.pos i) k.closed k.cut w c5 c6)
    have e1 : n.serveE (i : Int) = if n.acc ≤ i then 60 else if k.shut then 61 else 0 := by unfold Nt.serveE; rw [h1]; rfl
    have e2 : k.shut = (k.closed || k.cut) := rfl
    rw [e1, e2]
    obtain ⟨sh, hsh⟩ : ∃ sh, sh = (k.closed || k.cut) := ⟨_, rfl⟩
    rw [← hsh] at H2 ⊢
    clear h h1 e1 e2 q hsh c5 c6
    by_cases ha : n.acc ≤ i
    · rw [if_pos ha]
      show Calls Try.prog 46 #[ptr b, .int .i64 (i : Int)] w fun e w' => e = .returned (.tuple #[.pointer none, .int .i64 60]) ∧ w' = w
      have g1 : (n.acc : Int) ≤ (i : Int) := by omega
      go_enter Try.func46, Try.ntmps46
      go_wp2_with fail
      refine H1.out.mono ?_
      rintro e w1 ⟨rfl, rfl⟩
      go_wp2_with fail
      go_ret2
      exact ⟨rfl, rfl⟩
    · rw [if_neg ha]
      have g1 : ¬ (n.acc : Int) ≤ (i : Int) := by omega
      clear ha
      cases sh
      · show Calls Try.prog 46 #[ptr b, .int .i64 (i : Int)] w fun e w' => e = .returned (.tuple #[ptr (y.pos i), .int .i64 0]) ∧ w' = w
        go_enter Try.func46, Try.ntmps46
        go_wp2_with fail
        refine H1.out.mono ?_
        rintro e w1 ⟨rfl, rfl⟩
        go_wp2_with fail
        refine H2.out.mono ?_
        rintro e w2 ⟨rfl, rfl⟩
        go_wp2_with fail
        go_ret2
        exact ⟨rfl, rfl⟩
      · show Calls Try.prog 46 #[ptr b, .int .i64 (i : Int)] w fun e w' => e = .returned (.tuple #[.pointer none, .int .i64 61]) ∧ w' = w
        go_enter Try.func46, Try.ntmps46
        go_wp2_with fail
        refine H1.out.mono ?_
        rintro e w1 ⟨rfl, rfl⟩
        go_wp2_with fail
        refine H2.out.mono ?_
        rintro e w2 ⟨rfl, rfl⟩
        go_wp2_with fail
        go_ret2
        exact ⟨rfl, rfl⟩
/- room of a connection -/
set_option maxHeartbeats 1000000 in
set_option maxRecDepth 100000 in
theorem room_in {F : Nat → Prop} {b : Nat} {y : Lay} {n : Nt} {w : World} (h : NK F b y n w) {i : Nat} {k : Cn} (hk : n.cs[i]? = some k) (hl : k.wrote.length ≤ 140737488355328) :
    Calls Try.prog 47 #[ptr b, ptr (y.pos i)] w fun e w' => e = .returned (.int .i64 ((n.win - k.left : Nat) : Int)) ∧ ∃ m, w' = w.drewN m := by
  have q := h.fl i k hk
  have c0 : w.cell? ⟨b, 0, none⟩ = some (.int .i64 n.win) := h.cell 0
  have c3 : w.cell? ⟨y.pos i, 3, none⟩ = some (y.tv i true) := by rw [Lib.cell_of_heap q.blk]; rfl
  have c4 : w.cell? ⟨y.pos i, 4, none⟩ = some (.int .i64 k.tk) := by rw [Lib.cell_of_heap q.blk]; rfl
  have ok := h.ok.all k (List.mem_of_getElem? hk)
  have h1 := ok.tk
  have h2 := ok.win
  have h3 := h.ok.hi
  obtain ⟨a, c, hv⟩ := row_shape q.outr
  rw [hv] at c3
  have H1 := hid_of (fun W (h0 : W.cell? ⟨y.pos i, 3, none⟩ = some (.slice a k.wrote.length c)) (h1' : W.cell? ⟨y.pos i, 3 + 1, none⟩ = some (.int .i64 k.tk)) => left_call (y.pos i) 3 a k.wrote.length c k.tk W h1 (by omega) h0 h1')
  have e0 : k.wrote.length - k.tk = k.left := rfl
  rw [e0] at H1
  obtain ⟨L, hL⟩ : ∃ L, L = k.left := ⟨_, rfl⟩
  rw [← hL] at H1 h2 ⊢
  have e1 : IntKind.i64.wrap ((n.win : Int) - (L : Int)) = (n.win : Int) - (L : Int) := IntWalk.i64_in _ (by omega)
  have e2 : ((n.win - L : Nat) : Int) = (n.win : Int) - (L : Int) := by omega
  rw [e2]
  have C4 := hid_of c4
  have C3 := hid_of c3
  clear h q hv e0 hL ok h1 h2 h3 e2
  go_enter Try.func47, Try.ntmps47
  go_wp2_with fail
  go_quiet ((go_at_call 42; exact Calls.quiet_of (H1.out (w.drewN _) C3.out C4.out)))
  go_wp2_with fail
  go_ret
  exact ⟨rfl, _, rfl⟩

def new (win : Nat) : Nt := ⟨win, [], 0⟩
theorem new_ok {win : Nat} (h1 : 1 ≤ win) (h2 : win ≤ 1048576) : Ok (new win) := ⟨Nat.le_refl _, Nat.zero_le _, h1, h2, fun k hk => by simp [new] at hk⟩
set_option maxRecDepth 100000 in
theorem new_no (c : Int) (hc : c < 1 ∨ 1048576 < c) (w : World) : Calls Try.prog 7 #[.int .i64 c] w fun e w' => e = .returned (.tuple #[.pointer none, .int .i64 1]) ∧ w' = w := by
  rcases hc with h | h
  · go_enter Try.func7, Try.ntmps7
    go_wp2_with fail
    go_ret2
    exact ⟨rfl, rfl⟩
  · have h2 : ¬ c < 1 := by omega
    go_enter Try.func7, Try.ntmps7
    go_wp2_with fail
    go_ret2
    exact ⟨rfl, rfl⟩
set_option maxRecDepth 100000 in
theorem new_yes (win : Nat) (h1 : 1 ≤ win) (h2 : win ≤ 1048576) (w : World) : Calls Try.prog 7 #[.int .i64 (win : Int)] w fun e w' => e = .returned (.tuple #[ptr w.heap.size, .int .i64 0]) ∧ Has (fun k => k = w.heap.size) w.heap.size (new win) w' ∧ Below w.heap.size w w' := by
  have HO := hid_of (new_ok h1 h2)
  have g1 : ¬ (win : Int) < 1 := by omega
  have g2 : ¬ (1048576 : Int) < (win : Int) := by omega
  clear h1 h2
  go_enter Try.func7, Try.ntmps7
  go_wp2_with fail
  go_ret2
  refine ⟨rfl, ⟨⟨.slice none 0 0, fun _ => 0, fun _ _ => .slice none 0 0⟩, ⟨?_, World.ownsRow_nil _ _ _ _, rfl, fun g e => by simp [Value.ownBlock] at e, fun i k hk => by simp [new] at hk, fun i j hi => by simp [new] at hi, fun i p j q g hi => by simp [new] at hi, HO.out⟩⟩, (Below.refl _ _).alloc (Nat.le_refl _) _⟩
  exact heap_alloc_new w _
set_option maxRecDepth 100000 in
theorem conns_call {F : Nat → Prop} {b : Nat} {y : Lay} {n : Nt} {w : World} (h : NK F b y n w) : Calls Try.prog 13 #[ptr b] w fun e w' => e = .returned (.int .i64 (n.cs.length : Int)) ∧ w' = w := by
  have c1 : w.cell? ⟨b, 1, none⟩ = some y.cv := h.cell 1
  obtain ⟨a, cp, hv⟩ := row_shape h.row
  rw [hv] at c1
  clear h hv
  go_enter Try.func13, Try.ntmps13
  go_wp2_with fail
  go_ret
  exact ⟨rfl, rfl⟩
set_option maxHeartbeats 1000000 in
set_option maxRecDepth 100000 in
theorem accept_call {F : Nat → Prop} {b : Nat} {y : Lay} {n : Nt} {w : World} (h : NK F b y n w) : Calls Try.prog 19 #[ptr b] w fun e w' => e = .returned (.tuple #[.int .i64 n.accept.2.1, .bool n.accept.2.2]) ∧ NK F b y n.accept.1 w' ∧ Fr F w w' := by
  have c1 : w.cell? ⟨b, 1, none⟩ = some y.cv := h.cell 1
  have c2 : w.cell? ⟨b, 2, none⟩ = some (.int .i64 n.acc) := h.cell 2
  have f2 : w.frozen? ⟨b, 2, none⟩ = false := h.frozen 2
  obtain ⟨a, cp, hv⟩ := row_shape h.row
  rw [hv] at c1
  have hac := h.ok.acc
  have hle := h.ok.len
  have H := hid_of h
  by_cases he : n.acc = n.cs.length
  · have e1 : n.accept = (n, 0, false) := by unfold Nt.accept; rw [if_pos he]
    rw [e1]
    have g1 : ((n.acc : Int) == (n.cs.length : Int)) = true := by simp [he]
    clear h hv e1 he hac hle
    go_enter Try.func19, Try.ntmps19
    go_wp2_with fail
    go_quiet (fail)
    go_wp2_with fail
    go_ret2
    exact ⟨rfl, H.out.drewN _, (Fr.refl _ _).drewN _⟩
  · have hok := accept_ok h.ok
    have e1 : n.accept = ({ n with acc := n.acc + 1 }, (n.acc : Int), true) := by unfold Nt.accept; rw [if_neg he]
    rw [e1] at hok ⊢
    have g1 : ((n.acc : Int) == (n.cs.length : Int)) = false := by
      have : ¬ (n.acc : Int) = (n.cs.length : Int) := by omega
      simpa using this
    have e2 : IntKind.i64.wrap ((n.acc : Int) + 1) = (n.acc : Int) + 1 := IntWalk.i64_in _ (by omega)
    have e3 : IntKind.i64.wrap ((n.acc : Int) + 1 - 1) = (n.acc : Int) := by rw [IntWalk.i64_in _ (by omega)]; omega
    have HK := hid_of hok
    have hb1 : (n.acc : Int) ≤ 1024 := by omega
    have hb0 : (0 : Int) ≤ (n.acc : Int) := by omega
    clear h hv e1 he hac hle hok
    go_enter Try.func19, Try.ntmps19
    go_wp2_with fail
    go_quiet (fail)
    go_wp2_with fail
    go_ret2
    refine ⟨rfl, ?_, ?_⟩
    · exact (H.out.drewN _).accs (n.acc + 1) HK.out
    · exact ((Fr.refl _ _).drewN _).trans (Fr.set (Or.inl H.out.own) _)
end Go.Proofs.Ythmfgnagpifnlaa.Net
