/- append of one value to a row of the call's own: what it comes to, and where it lies. -/
import Derived.Test.YtfkilbhhpipjbaaGreatDoorSmall
import Derived.Deep.RegionLaw
import Derived.RegionDies
namespace Go.Proofs.YtfkilbhhpipjbaaGreatDoor.Append
open Go.RowKit
open Go.Proofs.YtfkilbhhpipjbaaGreatDoor.ReqMath
open Go.Proofs.YtfkilbhhpipjbaaGreatDoor.Base
set_option linter.unusedVariables false

theorem info9 : (Tryz.prog.info? 9).map (fun i => (i.zero, i.size, i.bytes)) = some (some (.string ⟨#[]⟩), 1, 16) := by kernel_rfl
theorem info33 : (Tryz.prog.info? 33).map (fun i => (i.zero, i.size, i.bytes)) = some (some (.slice none 0 0), 1, 24) := by kernel_rfl
theorem info_parts {e : TypeId} {z : Value} {n m : Nat} (h : (Tryz.prog.info? e).map (fun i => (i.zero, i.size, i.bytes)) = some (some z, n, m)) : ∃ i, Tryz.prog.info? e = some i ∧ i.zero = some z ∧ i.size = n ∧ i.bytes = m := by
  cases hi : Tryz.prog.info? e with
  | none => rw [hi] at h; cases h
  | some i =>
    rw [hi] at h
    simp at h
    exact ⟨i, rfl, h.1, h.2.1, h.2.2⟩
/- an element type of one cell -/
structure El (t e : TypeId) (z : Value) (bytes : Nat) : Prop where
  und : Tryz.prog.underlying t = some (.slice e)
  info : (Tryz.prog.info? e).map (fun i => (i.zero, i.size, i.bytes)) = some (some z, 1, bytes)
  one : z.cells.size = 1
  small : bytes ≤ 64
theorem el33 : El 33 9 (.string ⟨#[]⟩) 16 := ⟨Tryz.underlying33, info9, rfl, by decide⟩
theorem el61 : El 61 5 (.int .u8 0) 1 := ⟨Tryz.underlying61, info5, rfl, by decide⟩
def Apd (e : TypeId) (v : Value) (n m : Nat) (xs : List Value) (v' : Value) (W w' : World) : Prop :=
  w'.ownsRow 8 e 1 v' (n + m) xs ∧ W.grownBy w' v.ownBlock ∧ (∀ g, v'.ownBlock = some g → v.ownBlock = some g ∨ W.heap.size ≤ g) ∧ (v' = .slice none 0 0 ↔ v = .slice none 0 0 ∧ m = 0)
theorem append_where {t e : TypeId} {z : Value} {bytes : Nat} (E : El t e z bytes) (ty : TypeId) (W : World) (v : Value) (n : Nat) (xs : List Value) (h : W.ownsRow 8 e 1 v n xs) (hB : 8 ≤ W.heap.size) (a : Addr) (m c : Nat) (news : List Value) (hl : news.length = m)
    (hnews : ∀ (j : Nat) u, news[j]? = some u → W.cell? (a.add j) = some u) (h1 : ∀ u, u ∈ news → u.oneCell' = true) (hlen : n + m ≤ 1000000000) :
    ∃ v' w', (Builtin.append_ #[t, t] ty #[v, .slice (some a) m c]).run Tryz.prog W = .ok v' w' ∧ Apd e v n m (xs ++ news) v' W w' := by
  obtain ⟨i, hi, hz, hs, hb⟩ := info_parts E.info
  have hsm := E.small
  have hby : (n + m) * bytes ≤ 140737488355328 := Nat.le_trans (Nat.mul_le_mul hlen hsm) (by decide)
  obtain ⟨v', w', hr, h2, h3, h4⟩ := run_append_own (P := Tryz.prog) W 8 t ty e i z 1 bytes E.und hi hz hs hb E.one (by decide) v n xs h a m c news (by rw [hl, Nat.mul_one]) hnews h1 (by unfold maxLen; omega) hby hB
  refine ⟨v', w', hr, h2, h3, ?_, h4⟩
  rcases h.2 with ⟨rfl, hn⟩ | ⟨g, cap, cur, rfl, hbg, hg, hnc, hcm, hcs, htake⟩
  · subst hn
    have hx0 : xs = [] := List.length_eq_zero_iff.1 (by rw [h.1])
    subst hx0
    obtain ⟨v2, w2, hr2, h5, _, _⟩ := run_append_own (P := Tryz.prog) W W.heap.size t ty e i z 1 bytes E.und hi hz hs hb E.one (by decide) (.slice none 0 0) 0 [] (World.ownsRow_nil _ _ _ _) a m c news (by rw [hl, Nat.mul_one]) hnews h1 (by unfold maxLen; omega) hby (Nat.le_refl _)
    rw [hr] at hr2
    injection hr2 with e1 e2
    subst e1
    intro g hg
    exact Or.inr (h5.lt g hg).1
  · by_cases hroom : n + m ≤ cap
    · have hfit : n * i.size + news.length ≤ cur.size := by rw [hs, hl, hcs]; omega
      have hr2 := run_append_room (P := Tryz.prog) W t ty e i E.und hi g n cap cur hg a m c news (by rw [hl, hs, Nat.mul_one]) hnews h1 hroom hfit
      rw [hr] at hr2
      injection hr2 with e1 e2
      intro g2 hg2
      rw [e1] at hg2
      exact Or.inl hg2
    · have holds : ∀ (j : Nat) u, xs[j]? = some u → W.cell? ((⟨g, 0, none⟩ : Addr).add j) = some u := h.cells (g := g) rfl
      have hr2 := run_append_grow (P := Tryz.prog) W t ty e i z E.und hi hz ⟨g, 0, none⟩ n cap xs (by rw [hs]; exact h.1) holds a m c news (by rw [hl, hs, Nat.mul_one]) hnews (by omega) (by omega) (growslice_fits (by omega) (by rw [hb]; exact hby))
      rw [hr] at hr2
      injection hr2 with e1 e2
      intro g2 hg2
      rw [e1] at hg2
      have e : W.heap.size = g2 := by simpa [Value.ownBlock] using hg2
      exact Or.inr (Nat.le_of_eq e)
section
variable {ops : Array Oper} {rest : List Oper} {o : Oper} {a : Act} {Q : Exit → Act → World → Prop}
theorem wp_one {t e : TypeId} {z : Value} {bytes : Nat} (E : El t e z bytes) (s x : Operand) (ho : o.op = .call { callee := .builtin .append, args := #[s, x], argTypes := #[t, t] }) (v : Value) (n : Nat) (xs : List Value) (W : World) (ad : Addr) (c : Nat) (u : Value) {K : Act → World → Prop}
    (h : W.ownsRow 8 e 1 v n xs) (hB : 8 ≤ W.heap.size) (hs : a.eval s = v) (hx : a.eval x = .slice (some ad) 1 c) (hu : W.cell? ad = some u) (h1 : u.oneCell' = true) (hlen : n + 1 ≤ 1000000000)
    (hK : ∀ v' w', Apd e v n 1 (xs ++ [u]) v' W w' → K (a.put o.dst v') w') : o.wp Tryz.prog a W K Q := by
  obtain ⟨v', w', hr, h2⟩ := append_where E o.type W v n xs h hB ad 1 c [u] rfl (fun j y hj => by
    cases j with
    | zero => cases hj; rw [show ad.add 0 = ad from by unfold Addr.add; simp]; exact hu
    | succ j => cases hj) (fun y hy => by rw [List.mem_singleton.1 hy]; exact h1) hlen
  unfold Oper.wp execOp
  simp only [ho, resolve, invoke, builtin, Sem.run_bind, Sem.run_pure, Result.andThen_ok, List.map_toArray, List.map_cons, List.map_nil, hs, hx, hr]
  exact hK v' w' h2
theorem wpl_one {t e : TypeId} {z : Value} {bytes : Nat} (E : El t e z bytes) (hgd : o.guard = none) (s x : Operand) (ho : o.op = .call { callee := .builtin .append, args := #[s, x], argTypes := #[t, t] }) (v : Value) (n : Nat) (xs : List Value) (W : World) (ad : Addr) (c : Nat) (u : Value)
    (h : W.ownsRow 8 e 1 v n xs) (hB : 8 ≤ W.heap.size) (hs : a.eval s = v) (hx : a.eval x = .slice (some ad) 1 c) (hu : W.cell? ad = some u) (h1 : u.oneCell' = true) (hlen : n + 1 ≤ 1000000000)
    (hK : ∀ v' w', Apd e v n 1 (xs ++ [u]) v' W w' → wpList Tryz.prog ops Q rest (a.put o.dst v') w') : wpList Tryz.prog ops Q (o :: rest) a W :=
  wpList_plain hgd fun _ hK2 => wp_one E s x ho v n xs W ad c u h hB hs hx hu h1 hlen fun v' w' h2 => hK2 _ _ (hK v' w' h2)
theorem step_one {t e : TypeId} {z : Value} {bytes : Nat} (E : El t e z bytes) {EE : Prop} {K : Act → World → Prop} (hg : o.guard = none) (s x : Operand) (ho : o.op = .call { callee := .builtin .append, args := #[s, x], argTypes := #[t, t] }) (v : Value) (n : Nat) (xs : List Value) (W : World) (ad : Addr) (c : Nat) (u : Value)
    (h : W.ownsRow 8 e 1 v n xs) (hB : 8 ≤ W.heap.size) (hs : a.eval s = v) (hx : a.eval x = .slice (some ad) 1 c) (hu : W.cell? ad = some u) (h1 : u.oneCell' = true) (hlen : n + 1 ≤ 1000000000)
    (hK : ∀ v' w', Apd e v n 1 (xs ++ [u]) v' W w' → K (a.put o.dst v') w') :
    if Region.wanted o (yielded ops a.tmps) = true then Oper.wp Tryz.prog o a W K Q else EE := by
  have hw : Region.wanted o (yielded ops a.tmps) = true := by simp [Region.wanted, hg]
  rw [if_pos hw]
  exact wp_one E s x ho v n xs W ad c u h hB hs hx hu h1 hlen hK
end
end Go.Proofs.YtfkilbhhpipjbaaGreatDoor.Append
