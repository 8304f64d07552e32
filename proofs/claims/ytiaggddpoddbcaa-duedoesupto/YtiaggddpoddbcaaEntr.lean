/- entries: two lists, one by one. -/
import Derived.Test.YtiaggddpoddbcaaWalk
import Derived.BigQuiet
import Derived.DeepKeys
namespace Go.Proofs.Ytiaggddpoddbcaa.Entr
open Go.RowKit Go.Maps Go.Shelf
open Go.Proofs.Ytiaggddpoddbcaa.HeapMath
open Go.Proofs.Ytiaggddpoddbcaa.Heap
open Go.Proofs.Ytiaggddpoddbcaa.Turn
open Go.Proofs.Ytiaggddpoddbcaa.Before
open Go.Proofs.Ytiaggddpoddbcaa.RowB
open Go.Proofs.Ytiaggddpoddbcaa.Peek
open Go.Proofs.Ytiaggddpoddbcaa.NewS
open Go.Proofs.Ytiaggddpoddbcaa.RefP
set_option linter.unusedVariables false
set_option linter.unusedSimpArgs false
/-- a list of entries, as a law reads it -/
def LE (W : World) (v : Value) (S : Es) : Prop := ∃ a c, v = .slice a S.length c ∧ ∀ i (hi : i < S.length), ∃ g o, a = some ⟨g, o, none⟩ ∧ W.cell? ⟨g, o + i * 2, none⟩ = some (.string (mk S[i].1)) ∧ W.cell? ⟨g, o + i * 2 + 1, none⟩ = some (.int .i64 S[i].2)
theorem LE.of_yl {W : World} {v : Value} {S : Es} (h : YL W v S) : LE W v S := by
  obtain ⟨a, c, rfl, hc, h2⟩ := h
  refine ⟨a, c, rfl, fun i hi => ?_⟩
  obtain ⟨g, o, e, q1, q2, -⟩ := h2 i hi
  exact ⟨g, o, e, q1, q2⟩
theorem LE.below {W W' : World} {v : Value} {S : Es} (h : LE W v S) (k : Below W.heap.size W W') : LE W' v S := by
  obtain ⟨a, c, rfl, h2⟩ := h
  refine ⟨a, c, rfl, fun i hi => ?_⟩
  obtain ⟨g, o, e, q1, q2⟩ := h2 i hi
  exact ⟨g, o, e, (k.cell (block_lt_of_cell q1)).trans q1, (k.cell (block_lt_of_cell q2)).trans q2⟩
theorem flat_at : ∀ (S : Es) (i : Nat) (hi : i < S.length), (S.flatMap cS)[i * 2]? = some (.string (mk S[i].1)) ∧ (S.flatMap cS)[i * 2 + 1]? = some (.int .i64 S[i].2)
  | [], i, hi => absurd hi (by simp)
  | x :: r, 0, _ => by simp [cS]
  | x :: r, i + 1, hi => by
    have := flat_at r i (by simpa using hi)
    simp only [List.flatMap_cons, cS, List.getElem_cons_succ]
    rw [show (i + 1) * 2 = i * 2 + 1 + 1 by omega, show i * 2 + 1 + 1 + 1 = (i * 2 + 1) + 1 + 1 by omega]
    simpa using this
theorem LE.of_row {B : Nat} {W : World} {v : Value} {S : Es} (h : W.ownsRow B 62 2 v S.length (S.flatMap cS)) : LE W v S := by
  rcases Nat.eq_zero_or_pos S.length with h0 | h0
  · obtain ⟨a, c, rfl⟩ := Push.shape h
    exact ⟨a, c, rfl, fun i hi => absurd hi (by omega)⟩
  · rcases id h.2 with ⟨rfl, hn⟩ | ⟨g, cap, cur, rfl, hb, hg, r1, _⟩
    · omega
    · refine ⟨_, cap, rfl, fun i hi => ⟨g, 0, rfl, ?_⟩⟩
      have hl := flat_at S i hi
      have c1 := h.cells (g := g) rfl (i * 2) _ hl.1
      have c2 := h.cells (g := g) rfl (i * 2 + 1) _ hl.2
      have e : ∀ k, (⟨g, 0, none⟩ : Addr).add k = ⟨g, k, none⟩ := fun k => by unfold Addr.add; by_cases h0 : k = 0 <;> simp [h0]
      rw [e] at c1 c2
      rw [Nat.zero_add]
      exact ⟨c1, c2⟩
theorem bts_refl (x : ByteArray) : (x == x) = true := by
  cases x
  rename_i a
  show (a == a) = true
  simp
set_option maxRecDepth 100000 in
theorem eqS (n : Nat) (a c : ByteArray) (b d : Int) (w : World) : (Op.equalIn (n + 2) 62 (.agg #[.string a, .int .i64 b]) (.agg #[.string c, .int .i64 d])).run Try.prog w = .ok (a == c && b == d) w := by
  have h0 : Try.prog.stoodInHeld 62 = false := by kernel_rfl
  have hp : ∀ (x : ByteArray) (y : Int), (part 9 #[.string x, .int .i64 y] 0).run Try.prog w = .ok (.string x) w := fun x y => by kernel_rfl
  have hq : ∀ (x : ByteArray) (y : Int), (part 3 #[.string x, .int .i64 y] 1).run Try.prog w = .ok (.int .i64 y) w := fun x y => by kernel_rfl
  have he : ∀ x y : ByteArray, (Op.equalIn (n + 1) 9 (.string x) (.string y)).run Try.prog w = .ok (x == y) w := fun x y => by simp [Op.equalIn, run_underlying Try.underlying9]
  have hi : ∀ x y : Int, (Op.equalIn (n + 1) 3 (.int .i64 x) (.int .i64 y)).run Try.prog w = .ok (x == y) w := fun x y => by simp [Op.equalIn, run_underlying Try.underlying3]
  rw [run_equalIn_struct w (n + 1) 62 _ _ (by simp [Program.fieldsOf, Try.underlying62]) h0]
  simp [Program.fieldsOf, Try.underlying62, Op.eqFields, hp, hq, he, hi]
  cases (a == c) <;> by_cases h : b = d <;> simp [h]
theorem neq_same (X : ByteArray) (t : Int) (w : World) : (binOp .neq 62 (.agg #[.string X, .int .i64 t]) (.agg #[.string X, .int .i64 t])).run Try.prog w = .ok (.bool false) w := by
  have h : (Op.equal 62 (.agg #[.string X, .int .i64 t]) (.agg #[.string X, .int .i64 t])).run Try.prog w = .ok (X == X && t == t) w := eqS 9998 X X t t w
  rw [bts_refl] at h
  simp at h
  simp [binOp, h]
set_option maxHeartbeats 2000000 in
set_option maxRecDepth 100000 in
theorem entries_call {v1 v2 : Value} {S : Es} {w : World} (h1 : LE w v1 S) (h2 : LE w v2 S) (hl : S.length < 1099511627776) :
    Calls Try.prog 12 #[v1, v2] w fun e w' => e = .returned (.bool true) ∧ ∃ m, w' = w.drewN m := by
  obtain ⟨a1, c1, rfl, g1⟩ := h1
  obtain ⟨a2, c2, rfl, g2⟩ := h2
  have HG := hid_of (And.intro g1 g2)
  have hns := neq_same
  obtain ⟨N, HN⟩ : ∃ N, Hid (N = S.length) := ⟨_, hid_of rfl⟩
  rw [← HN.out] at hl ⊢
  clear g1 g2
  go_enter Try.func12, Try.ntmps12
  go_wp2_with fail
  go_loopg [5] N (fun g s5 wx => ∃ i : Nat, i + g = N ∧ s5 = .int .i64 (i : Int) ∧ Hid (∃ m, wx = w.drewN m))
  case atStart => exact ⟨0, by omega, rfl, hid_of ⟨0, rfl⟩⟩
  case round =>
    obtain ⟨i, hi, rfl, R⟩ := hrel
    by_cases hlt : i < N
    · have his : i < S.length := by rw [← HN.out]; exact hlt
      obtain ⟨q1, o1, rfl, p1, p2⟩ := HG.out.1 i his
      obtain ⟨q2, o2, rfl, p3, p4⟩ := HG.out.2 i his
      have d1 : (i : Int) < (N : Int) := by omega
      have r1 : wr.cell? ⟨q1, o1 + i * 2, none⟩ = some (.string (mk S[i].1)) := by obtain ⟨m, rfl⟩ := R.out; exact p1
      have r2 : wr.cell? ⟨q1, o1 + i * 2 + 1, none⟩ = some (.int .i64 S[i].2) := by obtain ⟨m, rfl⟩ := R.out; exact p2
      have r3 : wr.cell? ⟨q2, o2 + i * 2, none⟩ = some (.string (mk S[i].1)) := by obtain ⟨m, rfl⟩ := R.out; exact p3
      have r4 : wr.cell? ⟨q2, o2 + i * 2 + 1, none⟩ = some (.int .i64 S[i].2) := by obtain ⟨m, rfl⟩ := R.out; exact p4
      have ew : IntKind.i64.wrap ((i : Int) + 1) = (i : Int) + 1 := IntWalk.i64_in _ (by omega)
      clear p1 p2 p3 p4
      generalize mk S[i].1 = X at *
      generalize S[i].2 = t at *
      go_wp2_with fail
      go_quiet (fail)
      go_wp2_with fail
      go_roundg (gk - 1)
      case rel => exact ⟨i + 1, by omega, by rw [show ((i + 1 : Nat) : Int) = (i : Int) + 1 from by omega], by obtain ⟨m, e⟩ := R.out; exact ⟨m + nq, by rw [e, World.drewN_drewN]⟩⟩
      case measure => omega
    · have d1 : ¬ (i : Int) < (N : Int) := by omega
      go_wp2_with fail
      go_ret
      exact ⟨rfl, R.out⟩
end Go.Proofs.Ytiaggddpoddbcaa.Entr
