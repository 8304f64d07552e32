/- PipePlays, walked. -/
import Derived.Test.YthmfgnagpifnlaaStep
namespace Go.Proofs.Ythmfgnagpifnlaa.Plays
open Go.RowKit
open Go.Proofs.Ythmfgnagpifnlaa.PipeMath
open Go.Proofs.Ythmfgnagpifnlaa.Base
open Go.Proofs.Ythmfgnagpifnlaa.Queue
open Go.Proofs.Ythmfgnagpifnlaa.Queue2
open Go.Proofs.Ythmfgnagpifnlaa.Net
open Go.Proofs.Ythmfgnagpifnlaa.Sure
open Go.Proofs.Ythmfgnagpifnlaa.Done
open Go.Proofs.Ythmfgnagpifnlaa.Ops
open Go.Proofs.Ythmfgnagpifnlaa.Apart
open Go.Proofs.Ythmfgnagpifnlaa.Apart2
open Go.Proofs.Ythmfgnagpifnlaa.RefBase
open Go.Proofs.Ythmfgnagpifnlaa.Pair
open Go.Proofs.Ythmfgnagpifnlaa.Step
set_option linter.unusedVariables false

set_option maxHeartbeats 2000000 in
set_option maxRecDepth 100000 in
theorem law_bad (c : Int) (hc : c < 1 ∨ 1048576 < c) (v : Value) (w : World) : Calls Try.prog 3 #[.int .i64 c, v] w fun e w' => e = .returned (.bool true) ∧ Below w.heap.size w w' := by
  have A := hid_of (fun W => new_no c hc W)
  have H8 := hid_of (fun W => fit_call c W)
  rw [if_pos hc] at H8
  have S := hid_of sure_call
  clear hc
  go_enter Try.func3, Try.ntmps3
  go_wp2_with fail
  refine (A.out _).mono ?_
  rintro e w1 ⟨rfl, rfl⟩
  go_wp2_with fail
  refine (H8.out _).mono ?_
  rintro e w3 ⟨rfl, rfl⟩
  go_wp2_with fail
  refine (S.out _).mono ?_
  rintro e w4 ⟨rfl, b4⟩
  go_wp2_with fail
  go_ret
  exact ⟨rfl, b4⟩
structure PI (N B b2 : Nat) (l : List POp) (k : Nat) (w wr : World) : Prop where
  ex : ∃ n, Pr B B b2 n n w wr ∧ Big n (dt (l.take k))
theorem pr0 {B b2 N : Nat} {l : List POp} {w w1 w2 : World} (hh : Has (fun k => k = B) B (new N) w1) (l1 : Below B w w1) (hl : B < w1.heap.size) (hb : b2 = w1.heap.size) (e2 : w2 = w1.alloc (.cells #[.int .i64 (N : Int), .slice none 0 0] 32)) : PI N B b2 l 0 w w2 := by
  have bb : Below w1.heap.size w1 w2 := by rw [e2]; exact (Below.refl _ w1).alloc (Nat.le_refl _) _
  have hs : w2.heap.size = w1.heap.size + 1 := by rw [e2]; simp
  refine ⟨new N, ⟨⟨_, fun k => k = b2, has_keep (G := fun _ => False) hh (Fr.of_below bb) (fun _ _ e => e), ⟨.slice none 0 0, [], ?_, World.ownsRow_nil _ _ _ _, fun i k hk => by simp [new] at hk, rfl, fun g e => by simp [Value.ownBlock] at e⟩, fun k e e3 => ?_, fun k e => ?_, fun k e => ?_⟩, by omega, l1.trans (bb.mono (Nat.le_of_lt hl))⟩, ⟨fun k hk => by simp [new] at hk⟩⟩
  · rw [e2, hb]; exact heap_alloc_new w1 _
  · have e : k = B := e
    have e3 : k = b2 := e3
    omega
  · have e : k = B := e
    omega
  · have e : k = b2 := e
    omega
set_option maxHeartbeats 4000000 in
set_option maxRecDepth 100000 in
theorem law_good (N : Nat) (h1 : 1 ≤ N) (h2 : N ≤ 1048576) (a0 : Option Addr) (cap : Nat) (l : List POp) (w : World) (hO : OpSl w (.slice a0 l.length cap) l) (hwt : wt l ≤ 1048576) : Calls Try.prog 3 #[.int .i64 (N : Int), .slice a0 l.length cap] w fun e w' => e = .returned (.bool true) ∧ Below w.heap.size w w' := by
  have A := hid_of (fun W => new_yes N h1 h2 W)
  have H8 := hid_of (fun W => fit_call (N : Int) W)
  rw [if_neg (by omega)] at H8
  have S := hid_of sure_call
  obtain ⟨B, hB⟩ : ∃ B, B = w.heap.size := ⟨_, rfl⟩
  have HB := hid_of hB
  have hlen := Nat.le_trans (wt_len l) hwt
  have hdt := Nat.le_trans (dt_le l) hwt
  have HO : Hid (l = [] ∨ ∃ g o, a0 = some ⟨g, o, none⟩ ∧ g < B ∧ OpAt w g o l) := by
    obtain ⟨a, cp, e, h⟩ := hO
    cases e
    rcases h with h | ⟨g, o, e, hc⟩
    · exact Or.inl h
    · by_cases hl : l = []
      · exact Or.inl hl
      · refine Or.inr ⟨g, o, e, ?_, hc⟩
        have hp : 0 < l.length := List.length_pos_iff.2 hl
        have := World.block_lt_of_cell? w _ (hc 0 hp).1
        rw [hB]; exact this
  have HD := hid_of hdt
  clear hO hdt hwt
  rw [← hB]
  clear hB h1 h2
  go_enter Try.func3, Try.ntmps3
  go_wp2_with fail
  refine (A.out _).mono ?_
  rintro e w1 ⟨rfl, q1, l1⟩
  have L1 : Hid (w.heap.size < w1.heap.size) := has_lt q1
  have Q1 := hid_of (And.intro q1 l1)
  clear q1 l1
  rw [← HB.out]
  go_wp2_with fail
  refine (H8.out _).mono ?_
  rintro e w1' ⟨rfl, rfl⟩
  go_wp2_with fail
  obtain ⟨b2, hb2⟩ : ∃ b2, b2 = w1'.heap.size := ⟨_, rfl⟩
  obtain ⟨V, hV⟩ : ∃ V, V = w1'.alloc (.cells #[.int .i64 (N : Int), .slice none 0 0] 32) := ⟨_, rfl⟩
  have X0 : Hid (PI N B b2 l 0 w V) := pr0 (w1 := w1') (by have := Q1.out.1; rw [← HB.out] at this; exact this) (by have := Q1.out.2; rw [← HB.out] at this; exact this) (by have := L1.out; rw [← HB.out] at this; exact this) hb2 hV
  rw [← hV, ← hb2]
  clear hV hb2
  go_loopg [8] l.length (fun g s8 wx => ∃ k : Nat, k ≤ l.length ∧ l.length ≤ k + g ∧ s8 = .int .i64 k ∧ Hid (PI N B b2 l k w wx))
  case atStart => exact ⟨0, by omega, by omega, rfl, X0⟩
  case round =>
    obtain ⟨k, hk, hg, rfl, R0⟩ := hrel
    by_cases hlt : k < l.length
    · obtain ⟨g', rfl⟩ : ∃ g', gk = g' + 1 := ⟨gk - 1, by omega⟩
      have hor : ∃ g o, a0 = some ⟨g, o, none⟩ ∧ g < B ∧ OpAt w g o l := by
        rcases HO.out with h | h
        · rw [h] at hlt; simp at hlt
        · exact h
      obtain ⟨sq, o, rfl, hsq, hop⟩ := hor
      obtain ⟨n, T, bg⟩ := R0.out.ex
      have hopr := op_later hop (T.bl.block sq hsq) k hlt
      obtain ⟨c0, c1, c2, c3⟩ := hopr
      obtain ⟨kd, cn, nm, s, hop2⟩ : ∃ kd cn nm s, l[k] = ⟨kd, cn, nm, bs s⟩ := ⟨_, _, _, mk (l[k]).data, rfl⟩
      rw [hop2] at c0 c1 c2 c3
      dsimp only at c0 c1 c2 c3
      rw [mk_bs] at c3
      have gi : ((k : Int)) < (l.length : Int) := by omega
      have hss : dt (l.take k) + s.size ≤ 1048576 := by
        have h1 := dt_take l k hlt
        have h2 := dt_le_all l (k + 1)
        have h3 := HD.out
        rw [hop2] at h1
        dsimp only at h1
        rw [len_bs] at h1
        omega
      have st := step_call T kd cn nm s (dt (l.take k)) bg (by omega)
      unfold StepP at st
      have ST := hid_of st
      have HK := hid_of hop2
      clear hop hop2 T st
      go_wp2_with fail
      refine ST.out.mono ?_
      rintro e w7 ⟨rfl, t7⟩
      have X7 : Hid (PI N B b2 l (k + 1) w w7) := ⟨_, t7, by rw [dt_take l k hlt, HK.out]; exact did_big bg _⟩
      clear t7
      go_wp2_with fail
      go_roundg g'
      case measure => omega
      case rel => exact ⟨k + 1, by omega, by omega, by simp, X7⟩
    · obtain ⟨n, T, bg⟩ := R0.out.ex
      have gi : ¬ ((k : Int)) < (l.length : Int) := by omega
      have hd1 : dt (l.take k) ≤ 140737488355328 := by have := dt_le_all l k; have := HD.out; omega
      have hn := T.okA.len
      have HLEN : Hid (∀ W, Pr B B b2 n n w W → ∃ x cp, W.cell? ⟨b2, 1, none⟩ = some (.slice x n.cs.length cp)) := fun W T => by
        obtain ⟨Fa, Fb, h1, ⟨lv, xs, h2⟩, h3, h4, h5⟩ := T.two
        obtain ⟨x, cp, hv⟩ := row_shape h2.row
        exact ⟨x, cp, by rw [← hv]; exact Lib.cell_of_heap h2.net 1⟩
      have LK := hid_of (fun W (T : Pr B B b2 n n w W) c => look_call T (dt (l.take k)) bg hd1 c)
      have TT := hid_of T
      clear T
      go_wp2_with fail
      go_loopg [9] (n.cs.length + 2) (fun g s9 wx => ∃ c : Int, -1 ≤ c ∧ c ≤ (n.cs.length : Int) + 1 ∧ (n.cs.length : Int) + 1 - c ≤ (g : Int) ∧ s9 = .int .i64 c ∧ Hid (Pr B B b2 n n w wx))
      case atStart => exact ⟨-1, by omega, by omega, by omega, rfl, TT⟩
      case round =>
        obtain ⟨c, hc1, hc2, hg2, rfl, Y⟩ := hrel
        obtain ⟨x, cp, hlc⟩ := HLEN.out wr Y.out
        by_cases hle : c ≤ (n.cs.length : Int)
        · obtain ⟨g', rfl⟩ : ∃ g', gk = g' + 1 := ⟨gk - 1, by omega⟩
          have gw : IntKind.i64.wrap (c + 1) = c + 1 := IntWalk.i64_in _ (by omega)
          have LL := hid_of (LK.out wr Y.out c)
          go_wp2_with fail
          refine LL.out.mono ?_
          rintro e w7 ⟨rfl, t7⟩
          have Y7 := hid_of t7
          clear t7
          go_wp2_with fail
          go_roundg g'
          case measure => omega
          case rel => exact ⟨c + 1, by omega, by omega, by omega, rfl, Y7⟩
        · go_wp2_with fail
          refine (S.out _).mono ?_
          rintro e w8 ⟨rfl, b8⟩
          have B8 := hid_of b8
          clear b8
          go_wp2_with fail
          go_ret
          exact ⟨rfl, Y.out.bl.trans (B8.out.mono Y.out.low)⟩
theorem law_call (c : Int) (a0 : Option Addr) (cap : Nat) (l : List POp) (w : World) (hO : OpSl w (.slice a0 l.length cap) l) (hwt : wt l ≤ 1048576) : Calls Try.prog 3 #[.int .i64 c, .slice a0 l.length cap] w fun e w' => e = .returned (.bool true) ∧ Below w.heap.size w w' := by
  by_cases h : c < 1 ∨ 1048576 < c
  · exact law_bad c h _ w
  · obtain ⟨N, rfl⟩ : ∃ N : Nat, c = (N : Int) := ⟨c.toNat, by omega⟩
    exact law_good N (by omega) (by omega) a0 cap l w hO hwt
end Go.Proofs.Ythmfgnagpifnlaa.Plays
