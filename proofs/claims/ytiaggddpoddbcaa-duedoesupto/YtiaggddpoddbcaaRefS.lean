/- The document's Set. -/
import Derived.Test.YtiaggddpoddbcaaRefD
namespace Go.Proofs.Ytiaggddpoddbcaa.RefS
open Go.RowKit Go.Maps Go.Shelf
open Go.Proofs.Ytiaggddpoddbcaa.HeapMath
open Go.Proofs.Ytiaggddpoddbcaa.Heap
open Go.Proofs.Ytiaggddpoddbcaa.Turn
open Go.Proofs.Ytiaggddpoddbcaa.Before
open Go.Proofs.Ytiaggddpoddbcaa.RowB
open Go.Proofs.Ytiaggddpoddbcaa.Peek
open Go.Proofs.Ytiaggddpoddbcaa.Take
open Go.Proofs.Ytiaggddpoddbcaa.NewS
open Go.Proofs.Ytiaggddpoddbcaa.RefP
open Go.Proofs.Ytiaggddpoddbcaa.RefD
set_option linter.unusedVariables false
set_option linter.unusedSimpArgs false
/- an entry put in ahead of the first that it is below -/
def ins (x : Bs × Int) : Es → Es
  | [] => [x]
  | y :: r => if ltS x y then x :: y :: r else y :: ins x r
theorem ins_cons (x y : Bs × Int) (r : Es) : ins x (y :: r) = if ltS x y then x :: y :: r else y :: ins x r := rfl
def stp (x : Bs × Int) (p : Es × Bool) (y : Bs × Int) : Es × Bool := if p.2 = false ∧ ltS x y then (p.1 ++ [x] ++ [y], true) else (p.1 ++ [y], p.2)
def fld (x : Bs × Int) (S : Es) : Es × Bool := S.foldl (stp x) ([], false)
def fin (x : Bs × Int) (p : Es × Bool) : Es := if p.2 = true then p.1 else p.1 ++ [x]
theorem fld_t (x : Bs × Int) : ∀ (S o : Es), S.foldl (stp x) (o, true) = (o ++ S, true)
  | [], o => by simp
  | y :: r, o => by
    rw [List.foldl_cons, show stp x (o, true) y = (o ++ [y], true) from by unfold stp; simp, fld_t x r]
    simp
theorem fld_f (x : Bs × Int) : ∀ (S o : Es), fin x (S.foldl (stp x) (o, false)) = o ++ ins x S
  | [], o => by simp [fin, ins]
  | y :: r, o => by
    rw [List.foldl_cons]
    by_cases h : ltS x y
    · rw [show stp x (o, false) y = (o ++ [x] ++ [y], true) from by unfold stp; rw [if_pos ⟨rfl, h⟩], fld_t]
      rw [ins_cons, if_pos h]
      simp [fin]
    · rw [show stp x (o, false) y = (o ++ [y], false) from by unfold stp; rw [if_neg (fun q => h q.2)], fld_f x r]
      rw [ins_cons, if_neg h]
      simp
theorem fld_ins (x : Bs × Int) (S : Es) : fin x (fld x S) = ins x S := by unfold fld; rw [fld_f]; rfl
theorem fld_succ (x : Bs × Int) {S : Es} {k : Nat} (h : k < S.length) : fld x (S.take (k + 1)) = stp x (fld x (S.take k)) S[k] := by
  unfold fld
  rw [List.take_succ_eq_append_getElem h, List.foldl_append]
  rfl
theorem stp_len (x : Bs × Int) : ∀ (S : Es) (p : Es × Bool), (S.foldl (stp x) p).1.length ≤ p.1.length + 2 * S.length
  | [], p => by simp
  | y :: r, p => by
    rw [List.foldl_cons, List.length_cons]
    have h1 := stp_len x r (stp x p y)
    have h2 : (stp x p y).1.length ≤ p.1.length + 2 := by unfold stp; split <;> simp
    omega
theorem fld_len (x : Bs × Int) (S : Es) (k : Nat) : (fld x (S.take k)).1.length ≤ 2 * k := by
  have := stp_len x (S.take k) ([], false)
  rw [List.length_take] at this
  simp at this
  unfold fld
  omega
theorem lt_dec (k : Bs) (t : Int) (y : Bs × Int) : decide (ltS (k, t) y) = (decide (t < y.2) || (decide (t = y.2) && decide (k < y.1))) := by
  rw [Bool.eq_iff_iff]
  unfold ltS entLt
  by_cases h : t = y.2
  · subst h; simp
  · simp [h]
/- where the rows that are laid end -/
theorem own_next {w wr w1 : World} {v : Value} {m : Nat} {o : Obj} {xs : List Value} (hb : Below w.heap.size w wr) (ho : wr.ownsRow w.heap.size 62 2 v m xs) (hg : (wr.alloc o).grownBy w1 v.ownBlock) : Below w.heap.size w w1 := by
  have b1 : Below w.heap.size w (wr.alloc o) := hb.alloc hb.size _
  refine b1.grown hg b1.size (fun j hj => ?_)
  rcases ho.2 with ⟨e', _⟩ | ⟨g2, cap, cur, e', hb, _⟩
  · rw [e'] at hj; cases hj
  · rw [e'] at hj
    injection hj with hj
    have : g2 = j := hj
    omega
def ES (w : World) (wx : World) (v : Value) (m : Nat) (l : Es) : Prop := m = l.length ∧ wx.ownsRow w.heap.size 62 2 v m (l.flatMap cS) ∧ Below w.heap.size w wx
theorem es_app {w wr : World} {v : Value} {m : Nat} {l : Es} (h : ES w wr v m l) (hm : m < 4398046511104) (x : Bs × Int) : ∃ g' c' w1, (Builtin.append_ #[26, 26] 26 #[v, .slice (some ⟨wr.heap.size, 0, none⟩) 1 1]).run Try.prog (wr.alloc (.cells #[.string (mk x.1), .int .i64 x.2] 62)) = .ok (.slice (some ⟨g', 0, none⟩) (m + 1) c') w1 ∧ ES w w1 (.slice (some ⟨g', 0, none⟩) (m + 1) c') (m + 1) (l ++ [x]) ∧ ∀ k, k < wr.heap.size → v.ownBlock ≠ some k → w1.heap[k]? = wr.heap[k]? := by
  obtain ⟨i0, hi0, hz0, hz1, hz2⟩ := parts62
  obtain ⟨v', w1, hr, ho, hg, _⟩ := run_append_own (P := Try.prog) (wr.alloc (.cells #[.string (mk x.1), .int .i64 x.2] 62)) w.heap.size 26 26 62 i0 _ 2 24 Try.underlying26 hi0 hz0 hz1 hz2 rfl (by decide) v m (l.flatMap cS) (h.2.1.alloc _) ⟨wr.heap.size, 0, none⟩ 1 1 [.string (mk x.1), .int .i64 x.2] rfl (two_new _ _ _) (by simp [Value.oneCell']) (by unfold maxLen; omega) (by omega) (by have := h.2.2.size; simp; omega)
  obtain ⟨g', c', rfl⟩ := succ_shape ho
  refine ⟨g', c', w1, hr, ⟨?_, ?_, own_next h.2.2 h.2.1 hg⟩, fun k hk hne => (hg.block k (by simp; omega) (fun e => hne e.symm)).trans (Below.heap_alloc wr _ k hk)⟩
  · rw [List.length_append, h.1]; rfl
  · rw [List.flatMap_append, List.flatMap_cons, List.flatMap_nil, List.append_nil]
    exact ho
section
variable {ops : Array Oper} {rest : List Oper} {o : Oper} {a : Act} {Q : Exit → Act → World → Prop}
theorem wpl_eq (hgd : o.guard = none) (s x : Operand) (t tx : TypeId) (ho : o.op = .call { callee := .builtin .append, args := #[s, x], argTypes := #[t, tx] }) (v u v' : Value) (W W' : World) (hs : a.eval s = v) (hx : a.eval x = u)
    (hr : (Builtin.append_ #[t, tx] o.type #[v, u]).run Try.prog W = .ok v' W') (hK : wpList Try.prog ops Q rest (a.put o.dst v') W') : wpList Try.prog ops Q (o :: rest) a W := by
  refine wpList_plain hgd fun K hK2 => ?_
  unfold Oper.wp execOp
  simp only [ho, resolve, invoke, builtin, Sem.run_bind, Sem.run_pure, Result.andThen_ok, List.map_toArray, List.map_cons, List.map_nil, hs, hx, hr]
  exact hK2 _ _ hK
end
theorem es_below {w wx wy : World} {v : Value} {m : Nat} {l : Es} (h : ES w wx v m l) (b : Below wx.heap.size wx wy) : ES w wy v m l := by
  refine ⟨h.1, ⟨h.2.1.1, h.2.1.2.imp id ?_⟩, h.2.2.trans (b.mono h.2.2.size)⟩
  rintro ⟨g, cap, cur, e, hb, hg, r⟩
  exact ⟨g, cap, cur, e, hb, (b.block g (lt_of hg)).trans hg, r⟩
theorem es_lt {w wx : World} {v : Value} {m : Nat} {l : Es} (h : ES w wx v m l) : ∀ k, v.ownBlock = some k → k < wx.heap.size := fun k hk => (h.2.1.lt k hk).2
/- one block alone has turned -/
structure Oy (y : Nat) (w w' : World) : Prop where
  os : w'.os = w.os
  tape : w'.tape = w.tape
  output : w'.output = w.output
  size : w.heap.size ≤ w'.heap.size
  block : ∀ k, k < w.heap.size → k ≠ y → w'.heap[k]? = w.heap[k]?
theorem Oy.of {y : Nat} {w w' : World} (b : Below w.heap.size w w') (v : Value) : Oy y w (w'.setCell ⟨y, 0, none⟩ v) := by
  have e0 : Below 0 w' (w'.setCell ⟨y, 0, none⟩ v) := (Below.refl 0 w').setCell (Nat.zero_le _) v
  exact ⟨e0.os.trans b.os, e0.tape.trans b.tape, e0.output.trans b.output, Nat.le_trans b.size e0.size, fun k hk hne => (set_ne hne _).trans (b.block k hk)⟩
theorem Oy.trans {y : Nat} {a b c : World} (h : Oy y a b) (k : Oy y b c) : Oy y a c := ⟨k.os.trans h.os, k.tape.trans h.tape, k.output.trans h.output, Nat.le_trans h.size k.size, fun i hi hne => (k.block i (Nat.lt_of_lt_of_le hi h.size) hne).trans (h.block i hi hne)⟩
theorem yl_own {W : World} {B n : Nat} {v : Value} {l : Es} (h : W.ownsRow B 62 2 v n (l.flatMap cS)) (hn : n = l.length) : YL W v l := by
  subst hn
  have hlen : ∀ l : Es, (l.flatMap cS).length = l.length * 2 := fun l => by
    induction l with
    | nil => rfl
    | cons x r ih => rw [List.flatMap_cons, List.length_append, ih, List.length_cons]; show 2 + _ = _; omega
  have hat : ∀ (l : Es) (i j : Nat) (hi : i < l.length), j < 2 → (l.flatMap cS)[i * 2 + j]? = (cS l[i])[j]? := fun l => by
    induction l with
    | nil => intro i j hi; simp at hi
    | cons x r ih =>
      intro i j hi hj
      cases i with
      | zero =>
        rw [List.flatMap_cons, List.getElem?_append_left (by show _ < 2; omega)]
        simp
      | succ i =>
        rw [List.flatMap_cons, List.getElem?_append_right (by show 2 ≤ _; omega), show (i + 1) * 2 + j - (cS x).length = i * 2 + j from by show (i + 1) * 2 + j - 2 = _; omega]
        exact ih i j (by simpa using hi) hj
  rcases h.2 with ⟨rfl, h0⟩ | ⟨g, cap, cur, rfl, hb, hg, q1, q2, q3, q4⟩
  · exact ⟨none, 0, by rw [h0], by omega, fun i hi => by omega⟩
  · refine ⟨_, cap, rfl, q1, fun i hi => ⟨g, 0, rfl, ?_, ?_, cur, hg⟩⟩
    · have := h.cellAt (i * 2) (by omega)
      rw [Nat.zero_add, this]
      exact hat l i 0 hi (by omega)
    · have := h.cellAt (i * 2 + 1) (by omega)
      rw [Nat.zero_add, this]
      exact hat l i 1 hi (by omega)
set_option maxHeartbeats 8000000 in
set_option maxRecDepth 100000 in
theorem rset_call {y : Nat} {v : Value} {S : Es} {w : World} (hy : w.heap[y]? = some (.cells #[v] 28 (0, 0))) (h : YL w v S) (hl : S.length < 1099511627776) (key : Bs) (t : Int) (ht : 0 ≤ t) (ht2 : t ≤ 9007199254740992) :
    Calls Try.prog 30 #[ptr y, .string (mk key), .int .i64 t] w fun e w' => e = .returned (.int .i64 0) ∧ Oy y w w' ∧ ∃ v', w'.heap[y]? = some (.cells #[v'] 28 (0, 0)) ∧ YL w' v' (ins (key, t) (without S key)) := by
  have HD := hid_of (rdrop_call hy h hl key)
  have g1 : ¬ t < 0 := by omega
  have g2 : ¬ 9007199254740992 < t := by omega
  have hwo : (without S key).length ≤ S.length := List.length_filter_le _ _
  have HY := hid_of (And.intro hy (lt_of hy))
  obtain ⟨S1, hS1⟩ : ∃ S1, S1 = without S key := ⟨_, rfl⟩
  rw [← hS1] at HD hwo ⊢
  have hl1 : S1.length < 1099511627776 := by omega
  obtain ⟨KY, HKY⟩ : ∃ KY, Hid (KY = mk key) := ⟨_, hid_of rfl⟩
  rw [← HKY.out] at HD ⊢
  clear hS1 hy h hl hwo ht
  unfold ptr at HD ⊢
  go_enter Try.func30, Try.ntmps30
  go_wp2_with fail
  refine HD.out.mono ?_
  rintro e W0 ⟨rfl, wA, vA, bA, hW0, oA⟩
  have hy0 : wA.heap[y]? = some (.cells #[v] 28 (0, 0)) := (bA.block y HY.out.2).trans HY.out.1
  have hyW : W0.heap[y]? = some (.cells #[vA] 28 (0, 0)) := by rw [hW0]; exact (set_at hy0 _).trans rfl
  have hO : Oy y w W0 := by rw [hW0]; exact Oy.of bA vA
  have hYL : YL W0 vA S1 := by
    refine yl_own (B := w.heap.size) (n := S1.length) ⟨oA.1, oA.2.imp id ?_⟩ rfl
    rintro ⟨g, cap, cur, e, hb, hg, r⟩
    exact ⟨g, cap, cur, e, hb, by rw [hW0]; exact (set_ne (fun q => by have := HY.out.2; omega) _).trans hg, r⟩
  obtain ⟨a1, c1, rfl, hc1, hel⟩ := hYL
  have HE := hid_of (And.intro hyW (And.intro hO hel))
  clear hy0 hyW hO oA bA hW0 hel HD wA
  go_wp2_with fail
  go_loopg [7, 8, 9, 10] S1.length (fun gk s7 s8 s9 s10 wx => ∃ (k m : Nat) (ao : Option Addr) (co : Nat) (p : Bool), k + gk = S1.length ∧ s9 = .int .i64 (k : Int) ∧ s8 = .bool p ∧ s7 = .slice ao m co ∧ Hid (p = (fld (key, t) (S1.take k)).2 ∧ ES W0 wx (.slice ao m co) m (fld (key, t) (S1.take k)).1))
  case atStart => exact ⟨0, 0, none, 0, false, by omega, rfl, rfl, rfl, hid_of ⟨rfl, rfl, World.ownsRow_nil _ _ _ _, Below.refl _ _⟩⟩
  case round =>
    obtain ⟨k, m, ao, co, p, hk, rfl, rfl, rfl, I⟩ := hrel
    have hmk : m ≤ 2 * k := by rw [I.out.2.1]; exact fld_len _ S1 k
    have hy1 : wr.heap[y]? = some (.cells #[.slice a1 S1.length c1] 28 (0, 0)) := (I.out.2.2.2.block y (lt_of HE.out.1)).trans HE.out.1
    have cy : wr.cell? ⟨y, 0, none⟩ = some (.slice a1 S1.length c1) := Lib.cell_of_heap hy1 0
    have fy : wr.frozen? ⟨y, 0, none⟩ = false := Lib.frozen_of_heap hy1 0
    have hyl : y < wr.heap.size := lt_of hy1
    clear hy1
    by_cases hlt : k < S1.length
    · obtain ⟨g, o, hgo, q1, q2, -⟩ := HE.out.2.2 k hlt
      have d1 : (k : Int) < (S1.length : Int) := by omega
      have p1 := (I.out.2.2.2.cell (block_lt_of_cell q1)).trans q1
      have p2 := (I.out.2.2.2.cell (block_lt_of_cell q2)).trans q2
      subst hgo
      have e2 : IntKind.i64.wrap ((k : Int) + 1) = (k : Int) + 1 := IntWalk.i64_in _ (by omega)
      have hfs := fld_succ (key, t) hlt
      obtain ⟨z, hz⟩ : ∃ z, z = S1[k] := ⟨_, rfl⟩
      rw [← hz] at p1 p2 hfs
      have hld := lt_dec key t z
      have hlx : Op.bytesLess KY.toList (mk z.1).toList = decide (key < z.1) := by rw [HKY.out]; rw [mk_list, mk_list]; exact bytesLess_eq _ _
      obtain ⟨X, HX⟩ : ∃ X, Hid (X = mk z.1) := ⟨_, hid_of rfl⟩
      obtain ⟨tx, htx⟩ : ∃ tx, tx = z.2 := ⟨_, rfl⟩
      rw [← HX.out] at p1 hlx
      rw [← htx] at p2 hld
      obtain ⟨wb, hwb⟩ : ∃ wb, wb = wr.alloc (.cells #[.string X, .int .i64 tx] 62) := ⟨_, rfl⟩
      have bb : Below wr.heap.size wr wb := by rw [hwb]; exact (Below.refl _ wr).alloc (Nat.le_refl _) _
      have sb : wb.heap.size = wr.heap.size + 1 := by rw [hwb]; simp
      have hbx : wb.heap[wr.heap.size]? = some (.cells #[.string X, .int .i64 tx] 62 (0, 0)) := by rw [hwb]; exact heap_alloc_new wr _
      have Eb := es_below I.out.2 bb
      have HWB := hid_of hwb
      have HBX := hid_of (And.intro hbx (And.intro sb Eb))
      have hsx := str_eq key z.1
      rw [← HKY.out, ← HX.out] at hsx
      cases p with
      | true =>
        have hst : stp (key, t) (fld (key, t) (S1.take k)) z = ((fld (key, t) (S1.take k)).1 ++ [z], (fld (key, t) (S1.take k)).2) := by
          unfold stp
          rw [if_neg (fun q => by rw [← I.out.1] at q; cases q.1)]
        obtain ⟨g1', c1', w2, hr1, E2, K2⟩ := es_app HBX.out.2.2 (by omega) z
        rw [← HX.out, ← htx] at hr1
        rw [HBX.out.2.1, HWB.out] at hr1
        have HN : Hid (true = (fld (key, t) (S1.take (k + 1))).2 ∧ ES W0 w2 (.slice (some ⟨g1', 0, none⟩) (m + 1) c1') (m + 1) (fld (key, t) (S1.take (k + 1))).1) := hid_of ⟨by rw [hfs, hst]; exact I.out.1, by rw [hfs, hst]; exact E2⟩
        clear hst E2 K2 hfs hld hz q1 q2 htx
        go_wp2_with (first
          | (at_builtin; refine wpl_eq rfl _ _ 26 26 rfl (.slice ao m co) (.slice (some ⟨wr.heap.size + 1, 0, none⟩) 1 1) (.slice (some ⟨g1', 0, none⟩) (m + 1) c1') _ w2 rfl rfl hr1 ?_))
        go_roundg (gk - 1)
        case rel => exact ⟨k + 1, m + 1, _, _, true, by omega, by simp, rfl, rfl, HN⟩
        case measure => omega
      | false =>
        by_cases c1 : t < tx
        · have t1 : decide (t < tx) = true := decide_eq_true c1
          have hst : stp (key, t) (fld (key, t) (S1.take k)) z = ((fld (key, t) (S1.take k)).1 ++ [(key, t)] ++ [z], true) := by
            unfold stp
            rw [if_pos ⟨I.out.1.symm, of_decide_eq_true (by rw [hld, t1]; rfl)⟩]
          obtain ⟨g1', c1', w2, hr1, E2, K2⟩ := es_app HBX.out.2.2 (by omega) (key, t)
          have hb2 : w2.heap[wr.heap.size]? = some (.cells #[.string X, .int .i64 tx] 62 (0, 0)) := (K2 _ (by omega) (fun e => by have := es_lt I.out.2 _ e; omega)).trans HBX.out.1
          have v0 : w2.cell? ⟨wr.heap.size, 0, none⟩ = some (.string X) := Lib.cell_of_heap hb2 0
          have v1 : w2.cell? ⟨wr.heap.size, 1, none⟩ = some (.int .i64 tx) := Lib.cell_of_heap hb2 1
          obtain ⟨g2', c2', w3, hr2, E3, K3⟩ := es_app E2 (by omega) z
          rw [← HX.out, ← htx] at hr2
          simp only [← HKY.out] at hr1
          rw [HBX.out.2.1, HWB.out] at hr1
          have HN : Hid (true = (fld (key, t) (S1.take (k + 1))).2 ∧ ES W0 w3 (.slice (some ⟨g2', 0, none⟩) (m + 1 + 1) c2') (m + 1 + 1) (fld (key, t) (S1.take (k + 1))).1) := hid_of ⟨by rw [hfs, hst], by rw [hfs, hst]; exact E3⟩
          clear hst E2 K2 E3 K3 hfs hld hz q1 q2 hb2 htx
          go_wp2_with (first
            | (at_builtin; refine wpl_eq rfl _ _ 26 26 rfl (.slice ao m co) (.slice (some ⟨wr.heap.size + 1, 0, none⟩) 1 1) (.slice (some ⟨g1', 0, none⟩) (m + 1) c1') _ w2 rfl rfl hr1 ?_)
            | (at_builtin; refine wpl_eq rfl _ _ 26 26 rfl (.slice (some ⟨g1', 0, none⟩) (m + 1) c1') (.slice (some ⟨w2.heap.size, 0, none⟩) 1 1) (.slice (some ⟨g2', 0, none⟩) (m + 1 + 1) c2') _ w3 rfl rfl hr2 ?_))
          go_roundg (gk - 1)
          case rel => exact ⟨k + 1, m + 1 + 1, _, _, true, by omega, by simp, rfl, rfl, HN⟩
          case measure => omega
        · have t1 : decide (t < tx) = false := decide_eq_false c1
          by_cases c2 : t = tx
          · have t2d : decide (t = tx) = true := decide_eq_true c2
            subst c2
            by_cases c3 : key < z.1
            · have t3 : decide (key < z.1) = true := decide_eq_true c3
              have t4 : ((KY.toList == X.toList) = false) := by rw [hsx]; exact decide_eq_false (by rintro e; rw [e] at c3; exact List.lt_irrefl _ c3)
              rw [t3] at hlx
              have hst : stp (key, t) (fld (key, t) (S1.take k)) z = ((fld (key, t) (S1.take k)).1 ++ [(key, t)] ++ [z], true) := by
                unfold stp
                rw [if_pos ⟨I.out.1.symm, of_decide_eq_true (by rw [hld, t1, t2d, t3]; rfl)⟩]
              obtain ⟨g1', c1', w2, hr1, E2, K2⟩ := es_app HBX.out.2.2 (by omega) (key, t)
              have hb2 : w2.heap[wr.heap.size]? = some (.cells #[.string X, .int .i64 t] 62 (0, 0)) := (K2 _ (by omega) (fun e => by have := es_lt I.out.2 _ e; omega)).trans HBX.out.1
              have v0 : w2.cell? ⟨wr.heap.size, 0, none⟩ = some (.string X) := Lib.cell_of_heap hb2 0
              have v1 : w2.cell? ⟨wr.heap.size, 1, none⟩ = some (.int .i64 t) := Lib.cell_of_heap hb2 1
              obtain ⟨g2', c2', w3, hr2, E3, K3⟩ := es_app E2 (by omega) z
              rw [← HX.out, ← htx] at hr2
              simp only [← HKY.out] at hr1
              rw [HBX.out.2.1, HWB.out] at hr1
              have HN : Hid (true = (fld (key, t) (S1.take (k + 1))).2 ∧ ES W0 w3 (.slice (some ⟨g2', 0, none⟩) (m + 1 + 1) c2') (m + 1 + 1) (fld (key, t) (S1.take (k + 1))).1) := hid_of ⟨by rw [hfs, hst], by rw [hfs, hst]; exact E3⟩
              clear hst E2 K2 E3 K3 hfs hld hz q1 q2 hb2 htx t2d
              go_wp2_with (first
                | (at_builtin; refine wpl_eq rfl _ _ 26 26 rfl (.slice ao m co) (.slice (some ⟨wr.heap.size + 1, 0, none⟩) 1 1) (.slice (some ⟨g1', 0, none⟩) (m + 1) c1') _ w2 rfl rfl hr1 ?_)
                | (at_builtin; refine wpl_eq rfl _ _ 26 26 rfl (.slice (some ⟨g1', 0, none⟩) (m + 1) c1') (.slice (some ⟨w2.heap.size, 0, none⟩) 1 1) (.slice (some ⟨g2', 0, none⟩) (m + 1 + 1) c2') _ w3 rfl rfl hr2 ?_))
              go_roundg (gk - 1)
              case rel => exact ⟨k + 1, m + 1 + 1, _, _, true, by omega, by simp, rfl, rfl, HN⟩
              case measure => omega
            · have t3 : decide (key < z.1) = false := decide_eq_false c3
              rw [t3] at hlx
              have hst : stp (key, t) (fld (key, t) (S1.take k)) z = ((fld (key, t) (S1.take k)).1 ++ [z], (fld (key, t) (S1.take k)).2) := by
                unfold stp
                rw [if_neg (fun q => by have := decide_eq_true q.2; rw [hld, t1, t2d, t3] at this; cases this)]
              obtain ⟨g1', c1', w2, hr1, E2, K2⟩ := es_app HBX.out.2.2 (by omega) z
              rw [← HX.out, ← htx] at hr1
              rw [HBX.out.2.1, HWB.out] at hr1
              have HN : Hid (false = (fld (key, t) (S1.take (k + 1))).2 ∧ ES W0 w2 (.slice (some ⟨g1', 0, none⟩) (m + 1) c1') (m + 1) (fld (key, t) (S1.take (k + 1))).1) := hid_of ⟨by rw [hfs, hst]; exact I.out.1, by rw [hfs, hst]; exact E2⟩
              clear hst E2 K2 hfs hld hz q1 q2 htx t2d
              go_wp2_with (first
                | (at_builtin; refine wpl_eq rfl _ _ 26 26 rfl (.slice ao m co) (.slice (some ⟨wr.heap.size + 1, 0, none⟩) 1 1) (.slice (some ⟨g1', 0, none⟩) (m + 1) c1') _ w2 rfl rfl hr1 ?_))
              go_roundg (gk - 1)
              case rel => exact ⟨k + 1, m + 1, _, _, false, by omega, by simp, rfl, rfl, HN⟩
              case measure => omega
          · have t2 : (t == tx) = false := by simpa using c2
            have t2d : decide (t = tx) = false := decide_eq_false c2
            have hst : stp (key, t) (fld (key, t) (S1.take k)) z = ((fld (key, t) (S1.take k)).1 ++ [z], (fld (key, t) (S1.take k)).2) := by
              unfold stp
              rw [if_neg (fun q => by have := decide_eq_true q.2; rw [hld, t1, t2d] at this; cases this)]
            obtain ⟨g1', c1', w2, hr1, E2, K2⟩ := es_app HBX.out.2.2 (by omega) z
            rw [← HX.out, ← htx] at hr1
            rw [HBX.out.2.1, HWB.out] at hr1
            have HN : Hid (false = (fld (key, t) (S1.take (k + 1))).2 ∧ ES W0 w2 (.slice (some ⟨g1', 0, none⟩) (m + 1) c1') (m + 1) (fld (key, t) (S1.take (k + 1))).1) := hid_of ⟨by rw [hfs, hst]; exact I.out.1, by rw [hfs, hst]; exact E2⟩
            clear hst E2 K2 hfs hld hz q1 q2 htx
            go_wp2_with (first
              | (at_builtin; refine wpl_eq rfl _ _ 26 26 rfl (.slice ao m co) (.slice (some ⟨wr.heap.size + 1, 0, none⟩) 1 1) (.slice (some ⟨g1', 0, none⟩) (m + 1) c1') _ w2 rfl rfl hr1 ?_))
            go_roundg (gk - 1)
            case rel => exact ⟨k + 1, m + 1, _, _, false, by omega, by simp, rfl, rfl, HN⟩
            case measure => omega
    · have hkS : k = S1.length := by omega
      have d1 : ¬ (k : Int) < (S1.length : Int) := by omega
      have hfin := fld_ins (key, t) S1
      have hE := I.out
      rw [hkS, List.take_length] at hE
      have HFn : Hid (∀ (w2 : World) (vv : Value) (mm : Nat), ES W0 w2 vv mm (ins (key, t) S1) → Oy y w (w2.setCell ⟨y, 0, none⟩ vv) ∧ ∃ v', (w2.setCell ⟨y, 0, none⟩ vv).heap[y]? = some (.cells #[v'] 28 (0, 0)) ∧ YL (w2.setCell ⟨y, 0, none⟩ vv) v' (ins (key, t) S1)) := hid_of fun w2 vv mm hES => by
        have hy2 : w2.heap[y]? = some (.cells #[.slice a1 S1.length c1] 28 (0, 0)) := (hES.2.2.block y (lt_of HE.out.1)).trans HE.out.1
        refine ⟨HE.out.2.1.trans (Oy.of hES.2.2 vv), vv, (set_at hy2 _).trans rfl, yl_own (B := W0.heap.size) (n := mm) ⟨hES.2.1.1, hES.2.1.2.imp id ?_⟩ hES.1⟩
        rintro ⟨g, cap, cur, e, hb, hg, r⟩
        exact ⟨g, cap, cur, e, hb, (set_ne (fun q => by have := lt_of HE.out.1; omega) _).trans hg, r⟩
      cases p with
      | true =>
        have HZ : Hid (ES W0 wr (.slice ao m co) m (ins (key, t) S1)) := hid_of (by rw [← hfin]; unfold fin; rw [if_pos hE.1.symm]; exact hE.2)
        clear hE hfin I
        go_wp2_with fail
        go_ret
        exact ⟨rfl, HFn.out _ _ _ HZ.out⟩
      | false =>
        obtain ⟨g1', c1', w2, hr1, E2, K2⟩ := es_app hE.2 (by omega) (key, t)
        have HZ : Hid (ES W0 w2 (.slice (some ⟨g1', 0, none⟩) (m + 1) c1') (m + 1) (ins (key, t) S1)) := hid_of (by rw [← hfin]; unfold fin; rw [if_neg (by rw [← hE.1]; decide)]; exact E2)
        have hy2 : w2.heap[y]? = some (.cells #[.slice a1 S1.length c1] 28 (0, 0)) := (HZ.out.2.2.block y (lt_of HE.out.1)).trans HE.out.1
        have cy2 : w2.cell? ⟨y, 0, none⟩ = some (.slice a1 S1.length c1) := Lib.cell_of_heap hy2 0
        have fy2 : w2.frozen? ⟨y, 0, none⟩ = false := Lib.frozen_of_heap hy2 0
        simp only [← HKY.out] at hr1
        clear hE hfin I E2 K2 hy2
        go_wp2_with (at_builtin; refine wpl_eq rfl _ _ 26 26 rfl (.slice ao m co) (.slice (some ⟨wr.heap.size, 0, none⟩) 1 1) (.slice (some ⟨g1', 0, none⟩) (m + 1) c1') _ w2 rfl rfl hr1 ?_)
        go_ret
        exact ⟨rfl, HFn.out _ _ _ HZ.out⟩
end Go.Proofs.Ytiaggddpoddbcaa.RefS
