/- The document's Connect and Line. -/
import Derived.Test.YthmfgnagpifnlaaRefCalls3
import Derived.Test.YthmfgnagpifnlaaLine
namespace Go.Proofs.Ythmfgnagpifnlaa.RefCalls4
open Go.RowKit
open Go.Proofs.Ythmfgnagpifnlaa.PipeMath
open Go.Proofs.Ythmfgnagpifnlaa.Base
open Go.Proofs.Ythmfgnagpifnlaa.Queue
open Go.Proofs.Ythmfgnagpifnlaa.Queue2
open Go.Proofs.Ythmfgnagpifnlaa.Calls
open Go.Proofs.Ythmfgnagpifnlaa.Calls3
open Go.Proofs.Ythmfgnagpifnlaa.RefBase
open Go.Proofs.Ythmfgnagpifnlaa.RefCalls
open Go.Proofs.Ythmfgnagpifnlaa.RefCalls2
open Go.Proofs.Ythmfgnagpifnlaa.Line
set_option linter.unusedVariables false

abbrev zc : Array Value := #[.string ⟨#[]⟩, .string ⟨#[]⟩, .int .i64 0, .int .i64 0, .bool false, .bool false, .bool false, .bool false]
set_option maxRecDepth 100000 in
theorem append_rc (ty : Nat) (w : World) (v : Value) (n : Nat) (xs : List Value) (a0 : Nat) (h : w.ownsRow 0 89 8 v n xs) (hn : n < 1099511627776) (hs : w.heap[a0]? = some (.cells zc 89 (0, 0))) :
    ∃ a c w', (Builtin.append_ #[30, 30] ty #[v, .slice (some ⟨a0, 0, none⟩) 1 1]).run Try.prog w = .ok (.slice a (n + 1) c) w' ∧ w'.ownsRow 0 89 8 (.slice a (n + 1) c) (n + 1) (xs ++ zc.toList) ∧ w.grownBy w' v.ownBlock ∧ ∀ g, (Value.slice a (n + 1) c).ownBlock = some g → v.ownBlock = some g ∨ w.heap.size ≤ g := by
  obtain ⟨i, hi, hz0, hz1, hz2⟩ := parts info89
  have hnews : ∀ (j : Nat) u, zc.toList[j]? = some u → w.cell? ((⟨a0, 0, none⟩ : Addr).add j) = some u := fun j u hj => by
    rw [add_off, Nat.zero_add, Lib.cell_of_heap hs, ← hj]
    simp
  have h1 : ∀ u ∈ zc.toList, u.oneCell' = true := fun u hu => by
    simp only [List.mem_cons, List.not_mem_nil, or_false] at hu
    rcases hu with rfl | rfl | rfl | rfl | rfl | rfl | rfl | rfl <;> rfl
  obtain ⟨v', w', hr, h2, h3, h4⟩ := run_append_own (P := Try.prog) w 0 30 ty 89 i _ 8 56 Try.underlying30 hi hz0 hz1 hz2 rfl (by decide) v n xs h ⟨a0, 0, none⟩ 1 1 zc.toList rfl hnews h1 (by unfold maxLen; omega) (by omega) (Nat.zero_le _)
  obtain ⟨a, c, rfl⟩ := row_shape h2
  refine ⟨a, c, w', hr, h2, h3, ?_⟩
  rcases h.2 with ⟨rfl, hn0⟩ | ⟨g, cap, cur, rfl, hbg, hg, hnc, hcm, hcs, htake⟩
  · subst hn0
    have hx : xs = [] := List.length_eq_zero_iff.1 (by rw [h.1])
    subst hx
    obtain ⟨v2, w2, hr2, h5, _, _⟩ := run_append_own (P := Try.prog) w w.heap.size 30 ty 89 i _ 8 56 Try.underlying30 hi hz0 hz1 hz2 rfl (by decide) (.slice none 0 0) 0 [] (World.ownsRow_nil _ _ _ _) ⟨a0, 0, none⟩ 1 1 zc.toList rfl hnews h1 (by unfold maxLen; omega) (by omega) (Nat.le_refl _)
    rw [hr] at hr2
    injection hr2 with e1 e2
    subst e1
    exact fun g hg => Or.inr (h5.lt g hg).1
  · by_cases hroom : n + 1 ≤ cap
    · have hr2 := run_append_room (P := Try.prog) w 30 ty 89 i Try.underlying30 hi g n cap cur hg ⟨a0, 0, none⟩ 1 1 zc.toList (by rw [hz1]; rfl) hnews h1 hroom (by rw [hz1, hcs]; simp; omega)
      rw [hr] at hr2
      injection hr2 with e1 e2
      rw [e1]
      exact fun g hg => Or.inl hg
    · have hr2 := run_append_grow (P := Try.prog) w 30 ty 89 i _ Try.underlying30 hi hz0 ⟨g, 0, none⟩ n cap xs (by rw [hz1]; exact h.1) (h.cells (g := g) rfl) ⟨a0, 0, none⟩ 1 1 zc.toList (by rw [hz1]; rfl) hnews (by omega) (by omega) (growslice_fits (by omega) (by rw [hz2]; omega))
      rw [hr] at hr2
      injection hr2 with e1 e2
      rw [e1]
      refine fun g2 hg2 => Or.inr ?_
      have e : w.heap.size = g2 := by simpa [Value.ownBlock] using hg2
      exact Nat.le_of_eq e
section
variable {F : Nat → Prop} {b : Nat} {lv : Value} {xs : List Value} {n : Nt} {w : World}
set_option maxHeartbeats 2000000 in
set_option maxRecDepth 100000 in
theorem rconnect_call (h : RK F b lv xs n w) (ok : Ok n) : Calls Try.prog 25 #[ptr b] w fun e w' => e = .returned (.tuple #[.int .i64 n.connect.2.1, .int .i64 n.connect.2.2]) ∧ RHas (Gr F w) b n.connect.1 w' ∧ Fr F w w' := by
  have c1 : w.cell? ⟨b, 1, none⟩ = some lv := Lib.cell_of_heap h.net 1
  by_cases he : 1024 ≤ n.cs.length
  · have e1 : n.connect = (n, 0, 60) := by unfold Nt.connect; rw [if_pos he]
    rw [e1]
    obtain ⟨a, cp, hv⟩ := row_shape h.row
    rw [hv] at c1
    have g1 : (1024 : Int) ≤ (n.cs.length : Int) := by omega
    have H := hid_of h
    clear h hv e1 he
    go_enter Try.func25, Try.ntmps25
    go_wp2_with fail
    go_ret2
    exact ⟨rfl, ⟨_, _, H.out.mono fun _ e => Or.inl e⟩, Fr.refl _ _⟩
  · have e1 : n.connect = ({ n with cs := n.cs ++ [cn0] }, (n.cs.length : Int), 0) := by unfold Nt.connect; rw [if_neg he]
    rw [e1]
    have bB : Below w.heap.size w (w.alloc (.cells zc 89)) := (Below.refl _ w).alloc (Nat.le_refl _) _
    obtain ⟨a, c, w', hr, hrow, hg, hnew⟩ := append_rc 30 (w.alloc (.cells zc 89)) lv n.cs.length xs w.heap.size ((h.below bB).row) (by omega) (heap_alloc_new w _)
    have hsz : (w.alloc (.cells zc 89)).heap.size = w.heap.size + 1 := by simp
    have hnet : w'.heap[b]? = some (.cells #[.int .i64 n.win, lv] 32 (0, 0)) := by
      rw [hg.block b (by have := lt_of h.net; omega) (fun e => by
        obtain ⟨cur, hc⟩ := row_kd h.row e.symm
        exact kinds h.net hc (by decide) rfl), bB.block b (lt_of h.net)]
      exact h.net
    have hacc := ok.acc
    have HN : Hid (RHas (Gr F w) b { n with cs := n.cs ++ [cn0] } (w'.setCell ⟨b, 1, none⟩ (.slice a (n.cs.length + 1) c)) ∧ Fr F w (w'.setCell ⟨b, 1, none⟩ (.slice a (n.cs.length + 1) c))) := by
      refine ⟨⟨.slice a (n.cs.length + 1) c, xs ++ zc.toList, set_at hnet _, ?_, fun i k hk j hj => ?_, Or.inl h.own, fun g e => ?_⟩, ?_⟩
      · rw [show ({ n with cs := n.cs ++ [cn0] } : Nt).cs.length = n.cs.length + 1 by simp]
        refine row_later hrow fun g e => set_ne ?_ _
        obtain ⟨cur, hc⟩ := row_kd hrow e
        exact kinds hc hnet (by decide)
      · have hx := h.row.1
        have hk' : (n.cs ++ [cn0])[i]? = some k := hk
        by_cases hil : i < n.cs.length
        · rw [List.getElem?_append_left hil] at hk'
          rw [List.getElem?_append_left (by rw [hx]; omega)]
          exact h.is i k hk' j hj
        · have hl := (List.getElem?_eq_some_iff.1 hk').1
          simp at hl
          obtain rfl : i = n.cs.length := by omega
          rw [List.getElem?_append_right (Nat.le_refl _), Nat.sub_self] at hk'
          injection hk' with hk'
          subst hk'
          rw [List.getElem?_append_right (by rw [hx]; omega), hx, Nat.add_sub_cancel_left]
          show _ = (rc cn0 (decide (n.cs.length < n.acc)))[j]?
          rw [decide_eq_false (by omega)]
          rfl
      · rcases hnew g e with e1 | e1
        · exact Or.inl (h.rown g e1)
        · exact Or.inr (by omega)
      · exact ((Fr.of_below bB).trans (Fr.grown hg fun k e => Or.inl (h.rown k e))).trans (Fr.set (Or.inl h.own) _)
    have d1 : w'.cell? ⟨b, 1, none⟩ = some lv := Lib.cell_of_heap hnet 1
    have f1 : w'.frozen? ⟨b, 1, none⟩ = false := Lib.frozen_of_heap hnet 1
    have d2 : (w'.setCell ⟨b, 1, none⟩ (.slice a (n.cs.length + 1) c)).cell? ⟨b, 1, none⟩ = some (.slice a (n.cs.length + 1) c) := Lib.cell_of_heap (set_at hnet _) 1
    obtain ⟨a1, cp, hv⟩ := row_shape h.row
    rw [hv] at c1 hr d1
    have g1 : ¬ (1024 : Int) ≤ (n.cs.length : Int) := by omega
    have g2 : IntKind.i64.wrap ((n.cs.length : Int) + 1 - 1) = (n.cs.length : Int) := by rw [IntWalk.i64_in _ (by omega)]; omega
    have hb1 : (n.cs.length : Int) ≤ 1024 := by omega
    have hb0 : (0 : Int) ≤ (n.cs.length : Int) := by omega
    have HR := hid_of hr
    clear h hv e1 he hnet hrow hg hnew hr bB hsz
    go_enter Try.func25, Try.ntmps25
    go_wp2_with (at_builtin; refine wpl_eq rfl _ _ 30 30 rfl (.slice a1 n.cs.length cp) (.slice (some ⟨w.heap.size, 0, none⟩) 1 1) (.slice a (n.cs.length + 1) c) (w.alloc (.cells zc 89)) w' rfl rfl HR.out ?_)
    go_wp2_with fail
    go_ret2
    exact ⟨rfl, HN.out.1, HN.out.2⟩
end
end Go.Proofs.Ythmfgnagpifnlaa.RefCalls4
