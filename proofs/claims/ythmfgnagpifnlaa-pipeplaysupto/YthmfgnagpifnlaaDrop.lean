/- drop, and slices.Clone of bytes. -/
import Derived.Test.YthmfgnagpifnlaaQueue2
namespace Go.Proofs.Ythmfgnagpifnlaa.Drop
open Go.RowKit
open Go.Proofs.Ythmfgnagpifnlaa.PipeMath
open Go.Proofs.Ythmfgnagpifnlaa.Base
open Go.Proofs.Ythmfgnagpifnlaa.Queue
open Go.Proofs.Ythmfgnagpifnlaa.Queue2
set_option linter.unusedVariables false

theorem eq_nil (a : Option Addr) (n c : Nat) (w : World) : (binOp .eql 74 (.slice a n c) (.slice none 0 0)).run Try.prog w = .ok (.bool a.isNone) w := by
  exact Lib.run_eql_slice_nil (P := Try.prog) w 74 5 a n c 0 0 Try.underlying74
theorem tx_len (t : Bs) : (tx t).length = t.length := by unfold tx; rw [Lib.strCells_length, mk_size]
/- a slice of bytes, to be read -/
def BySl (w : World) (a : Option Addr) (t : Bs) : Prop := (a = none ∧ t = []) ∨ ∃ g, a = some ⟨g, 0, none⟩ ∧ ∀ (j : Nat) u, (tx t)[j]? = some u → w.cell? ⟨g, j, none⟩ = some u
theorem byte_one (t : Bs) : ∀ u ∈ tx t, u.oneCell' = true := by
  intro u hu
  unfold tx Lib.strCells at hu
  obtain ⟨x, _, rfl⟩ := List.mem_map.1 hu
  rfl
set_option maxHeartbeats 1000000 in
set_option maxRecDepth 100000 in
theorem clone_call (a : Option Addr) (c : Nat) (t : Bs) (w : World) (h : BySl w a t) (hl : t.length ≤ 140737488355328) : Calls Try.prog 56 #[.slice a t.length c] w fun e w' => ∃ a' c', e = .returned (.slice a' t.length c') ∧ w'.ownsRow w.heap.size 5 1 (.slice a' t.length c') t.length (tx t) ∧ Below w.heap.size w w' := by
  cases a with
  | none =>
    have hl0 : t = [] := by
      rcases h with ⟨_, h⟩ | ⟨g, e, _⟩
      · exact h
      · cases e
    subst hl0
    clear h
    have hq : ∀ w, (binOp .eql 74 (.slice none 0 c) (.slice none 0 0)).run Try.prog w = .ok (.bool true) w := eq_nil none 0 c
    go_enter Try.func56, Try.ntmps56
    go_wp2_with fail
    go_ret
    exact ⟨none, 0, rfl, World.ownsRow_nil _ _ _ _, Below.refl _ _⟩
  | some ad =>
    have HN : Hid (∀ (j : Nat) u, (tx t)[j]? = some u → w.cell? (ad.add j) = some u) := by
      rcases h with ⟨h, _⟩ | ⟨g, e, hc⟩
      · cases h
      · cases e
        intro j u hj
        rw [add_off, Nat.zero_add]
        exact hc j u hj
    clear h
    obtain ⟨i0, hi, hz0, hz1, hz2⟩ := parts info5
    have hq : ∀ w, (binOp .eql 74 (.slice (some ad) t.length c) (.slice none 0 0)).run Try.prog w = .ok (.bool false) w := eq_nil (some ad) t.length c
    have HB : Hid (Below w.heap.size w (w.alloc (.cells #[] 5))) := (Below.refl _ w).alloc (Nat.le_refl _) _
    have HN2 : Hid (∀ (j : Nat) u, (tx t)[j]? = some u → (w.alloc (.cells #[] 5)).cell? (ad.add j) = some u) := fun j u hj => by
      have := HN.out j u hj
      have hlt := World.block_lt_of_cell? w _ this
      rw [World.cell?_of_block (w := w) (Below.heap_alloc _ _ _ hlt)]
      exact this
    have HO : Hid ((w.alloc (.cells #[] 5)).ownsRow w.heap.size 5 1 (.slice (some ⟨w.heap.size, 0, none⟩) 0 0) 0 []) := World.ownsRow_made w #[] 0 (Nat.le_refl _) (by decide) rfl
    have HL : Hid ((tx t).length = t.length * 1) := by rw [Nat.mul_one]; exact tx_len t
    have H1 := hid_of (byte_one t)
    go_enter Try.func56, Try.ntmps56
    go_wp2_with (first
      | (at_builtin; refine wpList_append_own _ rfl _ _ 74 rfl w.heap.size 5 i0 (.int .u8 0) 1 1 Try.underlying74 hi hz0 hz1 hz2 rfl (by decide) _ 0 [] rfl HO.out ad t.length c (tx t) rfl HL.out HN2.out H1.out (by unfold maxLen; omega) (by omega) (by simp) ?_; intro v' w1 hown hg hnil; go_frame)
      | go_in)
    rw [Nat.zero_add, List.nil_append] at hown
    obtain ⟨a', c', hv⟩ := row_shape hown
    subst hv
    have HP := hid_of (And.intro hown (HB.out.grown hg HB.out.size (fun k hk => by cases hk; exact Nat.le_refl _)))
    clear hown hg hnil
    go_wp2_with fail
    go_ret
    exact ⟨a', c', rfl, HP.out.1, HP.out.2⟩
theorem own_zero {w : World} {base e sz n : Nat} {v : Value} {xs : List Value} (h : w.ownsRow base e sz v n xs) : w.ownsRow 0 e sz v n xs := by
  refine ⟨h.1, ?_⟩
  rcases h.2 with hn | ⟨g, cap, cur, rfl, hb, hg, rest⟩
  · exact Or.inl hn
  · exact Or.inr ⟨g, cap, cur, rfl, Nat.zero_le _, hg, rest⟩
set_option maxHeartbeats 1000000 in
set_option maxRecDepth 100000 in
theorem drop_call (f o : Nat) (cs : Array Value) (v : Value) (t : Bs) (g : Nat) (w : World) (hb : w.heap[f]? = some (.cells cs 82 (0, 0))) (hv : cs[o]? = some v) (hg : cs[o + 1]? = some (.int .i64 g)) (hgt : g ≤ t.length) (hl : t.length ≤ 140737488355328) (hr : w.ownsRow 0 5 1 v t.length (tx t)) :
    Calls Try.prog 54 #[qp f o] w fun e w' => e = .returned (.tuple #[]) ∧ ∃ v', w'.heap[f]? = some (.cells (cs.setIfInBounds o v') 82 (0, 0)) ∧ w'.ownsRow 0 5 1 v' (t.take g).length (tx (t.take g)) ∧ (∀ k, v'.ownBlock = some k → w.heap.size ≤ k) ∧ Fr (QF f v) w w' := by
  have c0 : w.cell? ⟨f, o, none⟩ = some v := by rw [Lib.cell_of_heap hb]; exact hv
  have c1 : w.cell? ⟨f, o + 1, none⟩ = some (.int .i64 g) := by rw [Lib.cell_of_heap hb]; exact hg
  have f1 : w.frozen? ⟨f, o, none⟩ = false := Lib.frozen_of_heap hb _
  obtain ⟨a, c, hs, -, hsh⟩ := cut_run0 hr hgt
  have hlen : (t.take g).length = g := by rw [List.length_take]; omega
  have hby : BySl w.drew a (t.take g) := by
    rcases hsh with ⟨h1, h2⟩ | ⟨q, h1, h2⟩
    · left; exact ⟨h1, by rw [h2]; simp⟩
    · right
      refine ⟨q, h1, fun j u hj => ?_⟩
      have hj2 : j < g := by
        have := (List.getElem?_eq_some_iff.1 hj).1
        rw [tx_len, hlen] at this
        exact this
      have e1 := cells_get (t.take g) j (by omega)
      rw [hj] at e1
      have e2 := cells_get t j (by omega)
      have h3 := hr.cells h2 j _ e2
      rw [add_off, Nat.zero_add] at h3
      rw [e1]
      show w.cell? _ = _
      rw [h3]
      simp
  have H1 := hid_of (clone_call a c (t.take g) w.drew hby (by omega))
  rw [hlen] at H1 ⊢
  have HB := hid_of hb
  obtain ⟨a1, c1', rfl⟩ := row_shape hr
  have hlt : f < w.heap.size := lt_of hb
  clear hr hsh hby hlen hb hv hg
  go_enter Try.func54, Try.ntmps54
  go_wp2_with fail
  go_region_with (first | (go_at_call 56; refine H1.out.mono ?_; rintro e w1 ⟨a2, c2, rfl, r2, b2⟩; have c01 : w1.cell? ⟨f, o, none⟩ = some (.slice a1 t.length c1') := (b2.cell (p := ⟨f, o, none⟩) hlt).trans c0; have f01 : w1.frozen? ⟨f, o, none⟩ = false := (b2.frozen (p := ⟨f, o, none⟩) hlt).trans f1; have R := hid_of (And.intro r2 b2); clear r2 b2))
  all_goals
    go_wp2_with fail
    go_end0
    refine ⟨rfl, .slice a2 g c2, ?_, ?_, ?_, ?_⟩
    · exact set_at ((R.out.2.block f hlt).trans HB.out) _
    · exact row_later (own_zero R.out.1) fun k hk => set_ne (fun e => by
        have := (R.out.1.lt k hk).1
        have h3 : w.drew.heap.size = w.heap.size := rfl
        omega) _
    · exact fun k hk => (R.out.1.lt k hk).1
    · exact ((Fr.refl _ w).drew.trans (Fr.of_below R.out.2)).trans (Fr.set (Or.inl (Or.inl rfl)) _)
end Go.Proofs.Ythmfgnagpifnlaa.Drop
