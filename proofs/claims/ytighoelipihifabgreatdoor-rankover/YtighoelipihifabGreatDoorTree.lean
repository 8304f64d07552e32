/- The tree: its size, a tree of entries in order. -/
import Derived.Test.YtighoelipihifabGreatDoorCmp
namespace Go.Proofs.YtighoelipihifabGreatDoor.Tree
open Go.RowKit Go.Maps Go.Sort
open Go.Proofs.YtighoelipihifabGreatDoor.MapMath
open Go.Proofs.YtighoelipihifabGreatDoor.RankMath
open Go.Proofs.YtighoelipihifabGreatDoor.RankMath2
open Go.Proofs.YtighoelipihifabGreatDoor.RankMath3
open Go.Proofs.YtighoelipihifabGreatDoor.Base
open Go.Proofs.YtighoelipihifabGreatDoor.Cmp
set_option linter.unusedVariables false

def nB (e : Ent) (n : Int) (l r : Value) : Obj := .cells (nodeCells e n l r) 73 (0, 0)
theorem node_c {w : World} {b : Nat} {e : Ent} {n : Int} {l r : Value} (h : w.heap[b]? = some (nB e n l r)) : w.cell? ⟨b, 0, none⟩ = some (.string (mk e.1)) ∧ w.cell? ⟨b, 1, none⟩ = some (.int .i64 e.2) ∧ w.cell? ⟨b, 2, none⟩ = some (.int .i64 n) ∧ w.cell? ⟨b, 3, none⟩ = some l ∧ w.cell? ⟨b, 4, none⟩ = some r :=
  ⟨Lib.cell_of_heap h 0, Lib.cell_of_heap h 1, Lib.cell_of_heap h 2, Lib.cell_of_heap h 3, Lib.cell_of_heap h 4⟩
set_option maxRecDepth 100000 in
theorem tlen_raw (b : Nat) (e : Ent) (n : Int) (l r : Value) (w : World) (h : w.heap[b]? = some (nB e n l r)) : Calls Tryz.prog 44 #[.pointer (some ⟨b, 0, none⟩)] w fun x w' => x = .returned (.int .i64 n) ∧ w' = w := by
  obtain ⟨c0, c1, c2, c3, c4⟩ := node_c h
  clear h
  go_enter Tryz.func44, Tryz.ntmps44
  go_wp2
  go_ret
  exact ⟨rfl, rfl⟩
theorem tlen_call (t : T) (w : World) (h : Tr w t) : Calls Tryz.prog 44 #[t.ptr] w fun x w' => x = .returned (.int .i64 (t.list.length : Int)) ∧ w' = w := by
  cases t with
  | nil =>
    show Calls Tryz.prog 44 #[.pointer none] w fun x w' => x = .returned (.int .i64 0) ∧ w' = w
    go_enter Tryz.func44, Tryz.ntmps44
    go_wp2
    go_ret
    exact ⟨rfl, rfl⟩
  | node b l e r =>
    have := tlen_raw b e _ _ _ w h.1
    have e2 : (T.node b l e r).list.length = l.list.length + 1 + r.list.length := by show (l.list ++ e :: r.list).length = _; simp; omega
    rw [e2]
    exact this
structure Bal (es : EL) (W : World) (t : T) (w' : World) : Prop where
  list : t.list = es
  tr : Tr w' t
  nd : t.blks.Nodup
  low : ∀ b ∈ t.blks, W.heap.size ≤ b
  bel : Below W.heap.size W w'
def BalE (es : EL) (W : World) (e : Ending) (w' : World) : Prop := ∃ q t, e = .returned (.pointer q) ∧ Hid (t.addr = q ∧ Bal es W t w')
theorem bal_nil (w : World) : BalE [] w (.returned (.pointer none)) w := ⟨none, .nil, rfl, rfl, rfl, trivial, List.nodup_nil, fun b hm => absurd hm List.not_mem_nil, Below.refl _ _⟩
theorem Bal.below {es : EL} {W w1 w2 : World} {t : T} (h : Bal es W t w1) (hb : Below w1.heap.size w1 w2) : Bal es W t w2 := ⟨h.list, h.tr.below hb, h.nd, h.low, Base.bel h.bel hb (Nat.le_refl _)⟩
theorem Bal.from {es : EL} {W W' w1 : World} {t : T} (h : Bal es W t w1) (hb : Below W'.heap.size W' W) : Bal es W' t w1 := ⟨h.list, h.tr, h.nd, fun b hm => Nat.le_trans hb.size (h.low b hm), Base.bel hb h.bel (Nat.le_refl _)⟩
/- two trees, one laid behind the other, and a node above both -/
theorem bal_join {es1 es2 : EL} {e : Ent} {W V w1 : World} {t1 t2 : T} (h1 : Bal es1 W t1 V) (hVw : Below V.heap.size V w1) (h2 : Tr w1 t2) (n2 : t2.blks.Nodup) (l2 : ∀ b ∈ t2.blks, W.heap.size ≤ b) (ll2 : t2.list = es2) (hap : ∀ b ∈ t1.blks, b ∉ t2.blks) (hn : Int) (hnn : hn = ((es1.length + 1 + es2.length : Nat) : Int)) : Bal (es1 ++ e :: es2) W (.node w1.heap.size t1 e t2) (w1.alloc (nB e hn t1.ptr t2.ptr)) := by
  have t1w := h1.tr.below hVw
  have bA := bnew w1 (nB e hn t1.ptr t2.ptr)
  refine ⟨by show t1.list ++ e :: t2.list = _; rw [h1.list, ll2], ⟨?_, t1w.below bA, h2.below bA⟩, ?_, ?_, Base.bel (Base.bel h1.bel hVw (Nat.le_refl _)) bA (Nat.le_refl _)⟩
  · rw [heap_alloc_new, h1.list, ll2, hnn]; rfl
  · show (w1.heap.size :: (t1.blks ++ t2.blks)).Nodup
    refine List.nodup_cons.2 ⟨fun hm => ?_, List.nodup_append.2 ⟨h1.nd, n2, fun a ha b hb e => hap a ha (e ▸ hb)⟩⟩
    rcases List.mem_append.1 hm with hm | hm
    · exact Nat.lt_irrefl _ (t1w.lt _ hm).1
    · exact Nat.lt_irrefl _ (h2.lt _ hm).1
  · intro b hb
    rcases List.mem_cons.1 hb with rfl | hb
    · exact Nat.le_trans h1.bel.size hVw.size
    · rcases List.mem_append.1 hb with hb | hb
      · exact h1.low b hb
      · exact l2 b hb
set_option maxHeartbeats 4000000 in
set_option maxRecDepth 100000 in
theorem bal_call : ∀ (n : Nat) (v : Value) (es : EL) (w : World), es.length ≤ n → FS w v es → es.length ≤ big → Calls Tryz.prog 20 #[v] w fun e w' => BalE es w e w'
  | 0, v, es, w, hn, h, hb => by
    have : es = [] := List.length_eq_zero_iff.1 (by omega)
    subst this
    obtain ⟨a, c, rfl, hc, h⟩ := h
    clear h
    show Calls Tryz.prog 20 #[.slice a 0 c] w _
    go_enter Tryz.func20, Tryz.ntmps20
    go_wp2
    go_ret
    exact bal_nil w
  | n + 1, v, es, w, hn, h, hb => by
    by_cases h0 : es = []
    · subst h0
      obtain ⟨a, c, rfl, hc, h⟩ := h
      clear h
      show Calls Tryz.prog 20 #[.slice a 0 c] w _
      go_enter Tryz.func20, Tryz.ntmps20
      go_wp2
      go_ret
      exact bal_nil w
    · have hp : 0 < es.length := List.length_pos_iff.2 h0
      obtain ⟨M, hM⟩ : ∃ M, M = es.length / 2 := ⟨_, rfl⟩
      have hMl : M < es.length := by omega
      have hFS := h
      obtain ⟨a, c, rfl, hc, h'⟩ := h
      clear h'
      obtain ⟨g, o, rfl, hat⟩ := hFS.at hMl
      obtain ⟨c0, c1⟩ := hat M hMl
      have HF := hid_of hFS
      have IHL : Hid (∀ W, Below w.heap.size w W → Calls Tryz.prog 20 #[.slice (some ⟨g, o, none⟩) M c] W fun e w' => ∃ q t, e = .returned (.pointer q) ∧ Hid (t.addr = q ∧ Bal (es.take M) W t w') ∧ Hid (Below W.heap.size W w')) := hid_of fun W hW => (bal_call n _ (es.take M) W (by rw [List.length_take]; omega) ((hFS.below hW).take M (by omega)) (by rw [List.length_take]; unfold big at *; omega)).mono fun e w' ⟨q, t, h1, h2⟩ => ⟨q, t, h1, h2, h2.out.2.bel⟩
      have IHR : Hid (∀ W, Below w.heap.size w W → Calls Tryz.prog 20 #[.slice (ca (some ⟨g, o, none⟩) c (M + 1)) (es.length - (M + 1)) (c - (M + 1))] W fun e w' => ∃ q t, e = .returned (.pointer q) ∧ Hid (t.addr = q ∧ Bal (es.drop (M + 1)) W t w') ∧ Hid (Below W.heap.size W w')) := hid_of fun W hW => (bal_call n _ (es.drop (M + 1)) W (by rw [List.length_drop]; omega) ((hFS.below hW).drop (M + 1) (by omega)) (by rw [List.length_drop]; unfold big at *; omega)).mono fun e w' ⟨q, t, h1, h2⟩ => ⟨q, t, h1, h2, h2.out.2.bel⟩
      have HCC : Hid (∀ W, Below w.heap.size w W → W.cell? ⟨g, o + M * 2, none⟩ = some (.string (mk (es[M]'hMl).1)) ∧ W.cell? ⟨g, o + M * 2 + 1, none⟩ = some (.int .i64 (es[M]'hMl).2)) := hid_of fun W hW => ⟨cell_on hW c0, cell_on hW c1⟩
      have HES : Hid (es = es.take M ++ (es[M]'hMl) :: es.drop (M + 1)) := hid_of (by rw [← List.drop_eq_getElem_cons hMl, List.take_append_drop])
      have HLN : Hid ((es.length : Int) = (((es.take M).length + 1 + (es.drop (M + 1)).length : Nat) : Int)) := hid_of (by rw [List.length_take, List.length_drop]; omega)
      have hcut1 := cut_hi (some ⟨g, o, none⟩) es.length c M (by omega)
      have hcut2 := cut_lo (some ⟨g, o, none⟩) es.length c (M + 1) (by omega)
      have hcaN := hid_of (rfl : ca (some ⟨g, o, none⟩) c (M + 1) = ca (some ⟨g, o, none⟩) c (M + 1))
      obtain ⟨AR, hAR⟩ : ∃ AR, AR = ca (some ⟨g, o, none⟩) c (M + 1) := ⟨_, rfl⟩
      rw [← hAR] at IHR hcut2
      rw [show ((M + 1 : Nat) : Int) = (M : Int) + 1 from by omega] at hcut2
      have e1 : (es.length : Int) / 2 = (M : Int) := by omega
      have e2 : IntKind.i64.wrap ((M : Int) + 1) = (M : Int) + 1 := IntWalk.i64_in _ (by unfold big at hb; omega)
      have e3 : IntKind.i64.wrap (M : Int) = (M : Int) := IntWalk.i64_in _ (by unfold big at hb; omega)
      have HBA : Hid (∀ (w2 : World) (ob : Obj), Below w.heap.size w w2 → Below w.heap.size w (w2.alloc ob)) := hid_of fun w2 ob h => h.alloc h.size ob
      have HBT : Hid (∀ w1, Below w.drew.heap.size w.drew w1 → Below w.heap.size w w1) := hid_of fun w1 h => (Below.refl _ w).drew.trans h
      have g1 : (M : Int) < (es.length : Int) := by omega
      have g0 : ((es.length : Int) == 0) = false := by simp; omega
      obtain ⟨E, hE⟩ : ∃ E, E = es[M]'hMl := ⟨_, rfl⟩
      rw [← hE] at c0 c1 HCC HES
      clear hFS hat hM hE hAR hcaN HF h0
      generalize hX : mk E.1 = X at *
      generalize hx : E.2 = x at *
      have HX := hid_of hX
      have Hx := hid_of hx
      clear hX hx
      generalize hN : es.length = N at *
      clear hN
      go_enter Tryz.func20, Tryz.ntmps20
      go_wp2_with fail
      go_region_held3 (fun V => V.cell? ⟨g, o + M * 2, none⟩ = some (.string X) ∧ V.cell? ⟨g, o + M * 2 + 1, none⟩ = some (.int .i64 x)) (first | exact ⟨c0, c1⟩ | exact d1 | exact d2 | exact HCC.out _ (HBA.out _ _ K2.out)) (first
        | (go_at_call_of 20 (Value.slice (some ⟨g, o, none⟩) M c); refine (IHL.out _ (Below.refl _ _).drew).mono ?_; rintro e w1 ⟨q1, t1, rfl, B1, L1⟩; have K1 : Hid (Below w.heap.size w w1) := hid_of (HBT.out w1 L1.out); have d1 := HCC.out w1 K1.out)
        | (go_at_call 20; go_loud (refine (IHR.out _ K1.out).mono ?_); rintro e w2 ⟨q2, t2, rfl, B2, L2⟩; have K2 : Hid (Below w.heap.size w w2) := hid_of (K1.out.trans (L2.out.mono K1.out.size)); have d2 := HCC.out w2 K2.out))
      go_wp2_with fail
      go_ret
      have hb1 := B1.out.2.from ((Below.refl _ w).drew)
      refine ⟨_, .node w2.heap.size t1 E t2, rfl, rfl, ?_⟩
      have hj := bal_join (e := E) hb1 L2.out B2.out.2.tr B2.out.2.nd (fun b hm => Nat.le_trans K1.out.size (B2.out.2.low b hm)) B2.out.2.list (fun b hm hm2 => Nat.not_lt.2 (B2.out.2.low b hm2) (B1.out.2.tr.lt b hm).1) _ HLN.out
      have e0 : nB E (N : Int) t1.ptr t2.ptr = .cells #[.string X, .int .i64 x, .int .i64 (N : Int), .pointer q1, .pointer q2] 73 := by
        unfold nB nodeCells T.ptr
        rw [HX.out, Hx.out, B1.out.1, B2.out.1]
      rw [e0, ← HES.out] at hj
      exact hj
end Go.Proofs.YtighoelipihifabGreatDoor.Tree
