/- slices.IndexFunc and slices.DeleteFunc over a row of entries. -/
import Derived.Test.YtighoelipihifabGreatDoorScores
import Derived.Lib.SliceRun
import Derived.Shelf.Abstract
namespace Go.Proofs.YtighoelipihifabGreatDoor.Delete
open Go.RowKit Go.Maps Go.Sort
open Go.Proofs.YtighoelipihifabGreatDoor.MapMath
open Go.Proofs.YtighoelipihifabGreatDoor.RankMath
open Go.Proofs.YtighoelipihifabGreatDoor.RankMath2
open Go.Proofs.YtighoelipihifabGreatDoor.RankMath3
open Go.Proofs.YtighoelipihifabGreatDoor.Base
open Go.Proofs.YtighoelipihifabGreatDoor.Cmp
open Go.Proofs.YtighoelipihifabGreatDoor.Sorts
open Go.Proofs.YtighoelipihifabGreatDoor.First
set_option linter.unusedVariables false

theorem cells_set {t : TypeId} {fz : Nat × Nat} {b : Nat} : ∀ (L : List Value) (o : Nat) (w : World) (cur : Array Value), w.heap[b]? = some (.cells cur t fz) → ∃ cur', (w.setCells b o L).heap[b]? = some (.cells cur' t fz) ∧ cur'.size = cur.size ∧ (∀ j, j < o → cur'[j]? = cur[j]?)
  | [], o, w, cur, h => ⟨cur, h, rfl, fun _ _ => rfl⟩
  | v :: r, o, w, cur, h => by
    obtain ⟨c', h1, h2, h3⟩ := cells_set r (o + 1) (w.setCell ⟨b, o, none⟩ v) _ (set_at h v)
    refine ⟨c', h1, by rw [h2]; simp, fun j hj => ?_⟩
    rw [h3 j (by omega), Array.getElem?_setIfInBounds, if_neg (by omega)]
theorem below_set {B b : Nat} (hb : B ≤ b) : ∀ (L : List Value) (o : Nat) (w0 w : World), Below B w0 w → Below B w0 (w.setCells b o L)
  | [], o, w0, w, h => h
  | v :: r, o, w0, w, h => below_set hb r (o + 1) w0 _ (h.setCell (p := ⟨b, o, none⟩) hb v)
theorem clear_run (w : World) (b o n c : Nat) (ty : TypeId) (hn : 0 < n) (hc : ∀ j, j < n * 2 → (w.cell? ⟨b, o + j, none⟩).isSome = true) (hf : ∀ j, j < n * 2 → w.frozen? ⟨b, o + j, none⟩ = false) :
    ∃ L : List Value, (Builtin.clear_ #[22] ty #[.slice (some ⟨b, o, none⟩) n c]).run Tryz.prog w = .ok (.tuple #[]) (w.setCells b o L) := by
  refine ⟨(Builtin.zeroCells (Value.agg #[.string ⟨#[]⟩, .int .i64 0]).cells n).toList, ?_⟩
  have hl : (Builtin.zeroCells (Value.agg #[.string ⟨#[]⟩, .int .i64 0]).cells n).toList.length = n * 2 := by
    rw [Array.length_toList, size_zeroCells]
    rfl
  have h1 : ∀ v ∈ (Builtin.zeroCells (Value.agg #[.string ⟨#[]⟩, .int .i64 0]).cells n).toList, v.oneCell' = true := by
    intro v hv
    unfold Builtin.zeroCells at hv
    simp only [Array.toList_map, List.mem_map] at hv
    obtain ⟨i, _, rfl⟩ := hv
    have hm : i % 2 = 0 ∨ i % 2 = 1 := by omega
    show Value.oneCell' ((#[Value.string ⟨#[]⟩, .int .i64 0] : Array Value)[i % 2]!) = true
    rcases hm with e | e <;> rw [e] <;> rfl
  have hst := run_storeCells_cells (P := Tryz.prog) b o (Builtin.zeroCells (Value.agg #[.string ⟨#[]⟩, .int .i64 0]).cells n).toList 0 w (by rw [hl]; simpa using hc) (by rw [hl]; simpa using hf) h1
  simp only [Nat.add_zero] at hst
  obtain ⟨m, rfl⟩ : ∃ m, n = m + 1 := ⟨n - 1, by omega⟩
  simp [Builtin.clear_, run_underlying Tryz.underlying22, hst]
/- a row of which the first i are kept and those from j on stand as they were -/
structure DR (B g cap i j : Nat) (l K : EL) (w : World) : Prop where
  gB : B ≤ g
  blk : ∃ cur : Array Value, w.heap[g]? = some (.cells cur 35 (0, 0)) ∧ cur.size = cap * 2 ∧ (∀ k (h : k < K.length), cur[k * 2]? = some (.string (mk (K[k]'h).1)) ∧ cur[k * 2 + 1]? = some (.int .i64 (K[k]'h).2)) ∧ (∀ k (h : k < l.length), j ≤ k → cur[k * 2]? = some (.string (mk (l[k]'h).1)) ∧ cur[k * 2 + 1]? = some (.int .i64 (l[k]'h).2))
theorem dr_below {B g cap i j : Nat} {l K : EL} {w w' : World} (h : DR B g cap i j l K w) (hb : Below w.heap.size w w') : DR B g cap i j l K w' := by
  obtain ⟨cur, h1, h2⟩ := h.blk
  exact ⟨h.gB, ⟨cur, (hb.block g (lt_of h1)).trans h1, h2⟩⟩
theorem dr_more {B g cap i j : Nat} {l K : EL} {w : World} (h : DR B g cap i j l K w) : DR B g cap i (j + 1) l K w := by
  obtain ⟨cur, h1, h2, h3, h4⟩ := h.blk
  exact ⟨h.gB, ⟨cur, h1, h2, h3, fun k hk hj => h4 k hk (by omega)⟩⟩
theorem dr_cells {B g cap i j : Nat} {l K : EL} {w : World} (h : DR B g cap i j l K w) {k : Nat} (hk : k < l.length) (hj : j ≤ k) : w.cell? ⟨g, k * 2, none⟩ = some (.string (mk (l[k]'hk).1)) ∧ w.cell? ⟨g, k * 2 + 1, none⟩ = some (.int .i64 (l[k]'hk).2) := by
  obtain ⟨cur, h1, h2, h3, h4⟩ := h.blk
  exact ⟨(Lib.cell_of_heap h1 _).trans (h4 k hk hj).1, (Lib.cell_of_heap h1 _).trans (h4 k hk hj).2⟩
theorem dr_any {B g cap i j : Nat} {l K : EL} {w : World} (h : DR B g cap i j l K w) {q : Nat} (hq : q < cap * 2) : (∃ v, w.cell? ⟨g, q, none⟩ = some v) ∧ w.frozen? ⟨g, q, none⟩ = false := by
  obtain ⟨cur, h1, h2, h3, h4⟩ := h.blk
  exact ⟨⟨cur[q]'(by omega), by rw [Lib.cell_of_heap h1]; exact Array.getElem?_eq_getElem (by omega)⟩, Lib.frozen_of_heap h1 q⟩
theorem dr_put {B g cap j : Nat} {l K : EL} {w : World} {e : Ent} (h : DR B g cap K.length j l K w) (hK : K.length < j) (hc : K.length < cap) : DR B g cap (K.length + 1) j l (K ++ [e]) ((w.setCell ⟨g, K.length * 2, none⟩ (.string (mk e.1))).setCell ⟨g, K.length * 2 + 1, none⟩ (.int .i64 e.2)) := by
  obtain ⟨cur, h1, h2, h3, h4⟩ := h.blk
  refine ⟨h.gB, ⟨_, set_at (set_at h1 _) _, by simp [h2], fun k hk => ?_, fun k hk hj => ?_⟩⟩
  · rw [List.length_append] at hk
    have hk' : k < K.length + 1 := hk
    by_cases e1 : k = K.length
    · subst e1
      rw [List.getElem_append_right (Nat.le_refl _)]
      constructor
      · rw [Array.getElem?_setIfInBounds, if_neg (by omega), Array.getElem?_setIfInBounds, if_pos rfl, if_pos (by omega)]
        simp
      · rw [Array.getElem?_setIfInBounds, if_pos rfl, if_pos (by simp; omega)]
        simp
    · have hlt : k < K.length := by omega
      rw [List.getElem_append_left hlt]
      constructor
      · rw [Array.getElem?_setIfInBounds, if_neg (by omega), Array.getElem?_setIfInBounds, if_neg (by omega)]
        exact (h3 k hlt).1
      · rw [Array.getElem?_setIfInBounds, if_neg (by omega), Array.getElem?_setIfInBounds, if_neg (by omega)]
        exact (h3 k hlt).2
  · constructor
    · rw [Array.getElem?_setIfInBounds, if_neg (by omega), Array.getElem?_setIfInBounds, if_neg (by omega)]
      exact (h4 k hk hj).1
    · rw [Array.getElem?_setIfInBounds, if_neg (by omega), Array.getElem?_setIfInBounds, if_neg (by omega)]
      exact (h4 k hk hj).2
theorem dr_or {B g cap i j : Nat} {l K : EL} {w : World} (h : DR B g cap i j l K w) (hc : K.length ≤ cap) (hm : cap ≤ maxLen) (L : List Value) : OR B (w.setCells g (K.length * 2) L) (.slice (some ⟨g, 0, none⟩) K.length cap) K := by
  obtain ⟨cur, h1, h2, h3, h4⟩ := h.blk
  obtain ⟨c', g1, g2, g3⟩ := cells_set L (K.length * 2) w cur h1
  refine ⟨fflat_len K, Or.inr ⟨g, cap, c', rfl, h.gB, g1, hc, hm, by rw [g2, h2], ?_⟩⟩
  apply List.ext_getElem?
  intro q
  by_cases hq : q < K.length * 2
  · rw [List.getElem?_take, if_pos hq, Array.getElem?_toList, g3 q hq]
    obtain ⟨d0, d1⟩ := fflat_at K (q / 2) (by omega)
    obtain ⟨a0, a1⟩ := h3 (q / 2) (by omega)
    rcases Nat.mod_two_eq_zero_or_one q with e | e
    · rw [show q / 2 * 2 = q from by omega] at a0 d0; rw [a0, d0]
    · rw [show q / 2 * 2 + 1 = q from by omega] at a1 d1; rw [a1, d1]
  · rw [List.getElem?_eq_none (by simp; omega), List.getElem?_eq_none (by rw [fflat_len]; omega)]
theorem or_dr {B : Nat} {w : World} {g cap : Nat} {l : EL} (h : OR B w (.slice (some ⟨g, 0, none⟩) l.length cap) l) (j : Nat) : DR B g cap j j l (l.take j) w ∧ l.length ≤ cap ∧ cap ≤ maxLen := by
  rcases h.2 with ⟨e, _⟩ | ⟨g', cap', cur, e, hb, hg, q1, q2, q3, q4⟩
  · cases e
  · injection e with e1 e2 e3
    injection e1 with e1
    injection e1 with e1
    subst e1 e3
    have key : ∀ k (hk : k < l.length), cur[k * 2]? = some (.string (mk (l[k]'hk).1)) ∧ cur[k * 2 + 1]? = some (.int .i64 (l[k]'hk).2) := fun k hk => by
      obtain ⟨d0, d1⟩ := fflat_at l k hk
      have c0 := h.cellAt (k * 2) (by omega)
      have c1 := h.cellAt (k * 2 + 1) (by omega)
      rw [Lib.cell_of_heap hg] at c0 c1
      exact ⟨c0.trans d0, c1.trans d1⟩
    refine ⟨⟨hb, ⟨cur, hg, q3, fun k hk => ?_, fun k hk _ => key k hk⟩⟩, q1, q2⟩
    rw [List.getElem_take]
    exact key k (by rw [List.length_take] at hk; omega)
def idxI (p : Ent → Bool) (l : EL) : Int := if l.any p then (l.findIdx p : Int) else -1
set_option maxHeartbeats 2000000 in
set_option maxRecDepth 100000 in
theorem index_call (l : EL) (p : Ent → Bool) (g0 : Nat) (cb : Array Value) (v : Value) (w : World) (h : FS w v l) (hn : l.length ≤ big)
    (eg : ∀ args w, (callFunc g0 args).run Tryz.prog w = .ok (.enter g0 args) w)
    (hp : ∀ (x : Ent) W, Below w.heap.size w W → Calls Tryz.prog g0 (#[eV x] ++ cb) W fun e w' => e = .returned (.bool (p x)) ∧ Below W.heap.size W w') :
    Calls Tryz.prog 72 #[v, .func (.func g0) #[] cb] w fun e w' => e = .returned (.int .i64 (idxI p l)) ∧ Below w.heap.size w w' := by
  have HF := hid_of h
  have HP := hid_of hp
  obtain ⟨a, c, rfl, hc, h'⟩ := h
  clear h' hp
  go_enter Tryz.func72, Tryz.ntmps72
  go_wp2_with fail
  go_loopg [8] l.length (fun g si wx => ∃ k : Nat, k ≤ l.length ∧ l.length ≤ k + g ∧ si = .int .i64 (k : Int) ∧ Hid (∀ i (hi : i < l.length), i < k → p (l[i]'hi) = false) ∧ Hid (Below w.heap.size w wx))
  case atStart => exact ⟨0, by omega, by omega, rfl, hid_of (fun i _ hi => by omega), hid_of (Below.refl _ _)⟩
  case round =>
    obtain ⟨k, hk, hg, rfl, HA, HB⟩ := hrel
    by_cases hlt : k < l.length
    · obtain ⟨g', rfl⟩ : ∃ g', gk = g' + 1 := ⟨gk - 1, by omega⟩
      obtain ⟨gb, o, rfl, hat⟩ := (HF.out.below HB.out).at hlt
      obtain ⟨c0, c1⟩ := hat k hlt
      have g1 : (k : Int) < (l.length : Int) := by omega
      have e2 : IntKind.i64.wrap ((k : Int) + 1) = (k : Int) + 1 := IntWalk.i64_in _ (by unfold big at hn; omega)
      have H1 := hid_of (HP.out (l[k]'hlt) wr HB.out)
      cases hq : p (l[k]'hlt) with
      | true =>
        rw [hq] at H1
        have HE : Hid (idxI p l = (k : Int)) := hid_of (by
          unfold idxI
          rw [if_pos (List.any_eq_true.2 ⟨_, List.getElem_mem hlt, hq⟩)]
          have : l.findIdx p = k := (List.findIdx_eq hlt).2 ⟨hq, fun j hj => HA.out j (by omega) hj⟩
          rw [this])
        clear hq hat
        unfold eV at H1
        generalize mk (l[k]'hlt).1 = X at *
        generalize (l[k]'hlt).2 = xx at *
        go_wp2_with (first | (go_at_fn g0; refine H1.out.mono ?_; rintro e w1 hw1; obtain ⟨rfl, b1⟩ := hw1; have HB1 := hid_of (Base.bel HB.out b1 (Nat.le_refl _)); clear b1))
        go_ret
        exact ⟨by rw [HE.out]; rfl, HB1.out⟩
      | false =>
        rw [hq] at H1
        have HA2 : Hid (∀ i (hi : i < l.length), i < k + 1 → p (l[i]'hi) = false) := hid_of fun i hi hik => by
          by_cases e : i = k
          · subst e; exact hq
          · exact HA.out i hi (by omega)
        clear hq hat
        unfold eV at H1
        generalize mk (l[k]'hlt).1 = X at *
        generalize (l[k]'hlt).2 = xx at *
        go_wp2_with (first | (go_at_fn g0; refine H1.out.mono ?_; rintro e w1 hw1; obtain ⟨rfl, b1⟩ := hw1; have HB1 := hid_of (Base.bel HB.out b1 (Nat.le_refl _)); clear b1))
        go_roundg g'
        case measure => omega
        case rel => exact ⟨k + 1, by omega, by omega, by rw [show ((k + 1 : Nat) : Int) = (k : Int) + 1 from by omega], HA2, HB1⟩
    · have gi : ¬ (k : Int) < (l.length : Int) := by omega
      have HE : Hid (idxI p l = -1) := hid_of (by
        unfold idxI
        rw [if_neg]
        intro h
        obtain ⟨x, hx, hpx⟩ := List.any_eq_true.1 h
        obtain ⟨i, hi, rfl⟩ := List.getElem_of_mem hx
        rw [HA.out i hi (by omega)] at hpx
        cases hpx)
      go_wp2_with fail
      go_ret
      exact ⟨by rw [HE.out]; rfl, HB.out⟩
theorem filter_take_succ {p : Ent → Bool} {l : EL} {j : Nat} (h : j < l.length) : (l.take (j + 1)).filter p = (l.take j).filter p ++ (if p (l[j]'h) then [l[j]'h] else []) := by
  rw [List.take_succ_eq_append_getElem h, List.filter_append]
  congr 1
  cases h2 : p (l[j]'h) <;> simp [h2]
set_option maxHeartbeats 8000000 in
set_option maxRecDepth 100000 in
theorem delete_call {B : Nat} (l : EL) (p : Ent → Bool) (g0 : Nat) (cb : Array Value) (v : Value) (w : World) (h : OR B w v l) (hn : l.length ≤ big) (hB : B ≤ w.heap.size)
    (eg : ∀ args w, (callFunc g0 args).run Tryz.prog w = .ok (.enter g0 args) w)
    (hp : ∀ (x : Ent) W, Below B w W → Calls Tryz.prog g0 (#[eV x] ++ cb) W fun e w' => e = .returned (.bool (p x)) ∧ Below W.heap.size W w') :
    Calls Tryz.prog 49 #[v, .func (.func g0) #[] cb] w fun e w' => ∃ v', e = .returned v' ∧ OR B w' v' (l.filter fun x => !p x) ∧ Below B w w' := by
  have H1 := hid_of (index_call l p g0 cb v w (fs_row h) hn eg (fun x W hW => hp x W (hW.mono hB)))
  have HO := hid_of h
  have HP := hid_of hp
  have HBB : Hid (B ≤ w.heap.size) := hB
  clear hp
  cases ha : l.any p with
  | false =>
    have hi : idxI p l = -1 := by unfold idxI; rw [ha]; rfl
    rw [hi] at H1
    have HE : Hid ((l.filter fun x => !p x) = l) := hid_of (flt_all fun y hy => by
      have := List.any_eq_false.1 ha y hy
      simpa using this)
    clear ha hi h
    go_enter Tryz.func49, Tryz.ntmps49
    go_wp2_with fail
    refine H1.out.mono ?_
    rintro e w1 hw1
    obtain ⟨rfl, b1⟩ := hw1
    have HB1 := hid_of b1
    clear b1
    go_wp2_with fail
    go_ret
    exact ⟨_, rfl, by rw [HE.out]; exact row_below HO.out HB1.out, HB1.out.mono HBB.out⟩
  | true =>
    obtain ⟨I, hI⟩ : ∃ I, I = l.findIdx p := ⟨_, rfl⟩
    have hi : idxI p l = (I : Int) := by unfold idxI; rw [ha, hI]; rfl
    rw [hi] at H1
    have hIl : I < l.length := by rw [hI]; exact List.findIdx_lt_length_of_exists (by simpa using List.any_eq_true.1 ha)
    have hne : l ≠ [] := by rintro rfl; simp at hIl
    obtain ⟨g, cap, rfl⟩ : ∃ g cap, v = .slice (some ⟨g, 0, none⟩) l.length cap := by
      rcases or_fit h with ⟨h1, _⟩ | h1
      · exact absurd h1 hne
      · exact h1
    obtain ⟨_, hcap, hmax⟩ := or_dr h 0
    have HD1 : Hid (∀ w1, Below w.heap.size w w1 → DR B g cap I (I + 1) l ((l.take (I + 1)).filter fun x => !p x) w1) := hid_of fun w1 b1 => by
      obtain ⟨hd, _, _⟩ := or_dr (row_below h b1) I
      have e1 : (l.take (I + 1)).filter (fun x => !p x) = l.take I := by
        have hpI : p (l[I]'hIl) = true := by
          have := List.findIdx_getElem (p := p) (xs := l) (w := by rw [← hI]; exact hIl)
          simp only [← hI] at this
          exact this
        rw [filter_take_succ hIl, hpI, if_neg (by simp), List.append_nil]
        refine flt_all fun y hy => ?_
        obtain ⟨i, hi2, rfl⟩ := List.getElem_of_mem hy
        rw [List.getElem_take]
        have hi3 : i < l.findIdx p := by rw [← hI]; rw [List.length_take] at hi2; omega
        have := List.not_of_lt_findIdx hi3
        simpa using this
      rw [e1]
      exact dr_more hd
    have HLK : Hid (((l.take (I + 1)).filter fun x => !p x).length = I) := hid_of (by
      have e1 : (l.take (I + 1)).filter (fun x => !p x) = l.take I := by
        have hpI : p (l[I]'hIl) = true := by
          have := List.findIdx_getElem (p := p) (xs := l) (w := by rw [← hI]; exact hIl)
          simp only [← hI] at this
          exact this
        rw [filter_take_succ hIl, hpI, if_neg (by simp), List.append_nil]
        refine flt_all fun y hy => ?_
        obtain ⟨i, hi2, rfl⟩ := List.getElem_of_mem hy
        rw [List.getElem_take]
        have hi3 : i < l.findIdx p := by rw [← hI]; rw [List.length_take] at hi2; omega
        have := List.not_of_lt_findIdx hi3
        simpa using this
      rw [e1, List.length_take]; omega)
    have g0' : ((I : Int) == -1) = false := by simp <;> omega
    have e1 : IntKind.i64.wrap ((I : Int) + 1) = (I : Int) + 1 := IntWalk.i64_in _ (by unfold big at hn; omega)
    have HgB : Hid (B ≤ g) := hid_of (h.lt g rfl).1
    clear ha hi h hI hne
    go_enter Tryz.func49, Tryz.ntmps49
    go_wp2_with fail
    refine H1.out.mono ?_
    rintro e w1 hw1
    obtain ⟨rfl, b1⟩ := hw1
    have HB1 := hid_of b1
    clear b1
    go_wp2_with fail
    go_loopg [5, 6] l.length (fun gg si sj wx => ∃ (i j : Nat), si = .int .i64 (i : Int) ∧ sj = .int .i64 (j : Int) ∧ i < j ∧ j ≤ l.length ∧ l.length ≤ j + gg ∧ Hid (((l.take j).filter fun x => !p x).length = i ∧ DR B g cap i j l ((l.take j).filter fun x => !p x) wx) ∧ Hid (Below B w wx))
    case atStart => exact ⟨I, I + 1, rfl, by rw [show ((I + 1 : Nat) : Int) = (I : Int) + 1 from by omega], by omega, by omega, by omega, hid_of ⟨HLK.out, HD1.out w1 HB1.out⟩, hid_of (HB1.out.mono HBB.out)⟩
    case round =>
      obtain ⟨i, j, rfl, rfl, hij, hjl, hg, HDR, HBx⟩ := hrel
      by_cases hlt : j < l.length
      · obtain ⟨g', rfl⟩ : ∃ g', gk = g' + 1 := ⟨gk - 1, by omega⟩
        have g1 : (j : Int) < (l.length : Int) := by omega
        have g2 : (i : Int) < (l.length : Int) := by omega
        have e2 : IntKind.i64.wrap ((j : Int) + 1) = (j : Int) + 1 := IntWalk.i64_in _ (by unfold big at hn; omega)
        have e3 : IntKind.i64.wrap ((i : Int) + 1) = (i : Int) + 1 := IntWalk.i64_in _ (by unfold big at hn; omega)
        obtain ⟨c0, c1⟩ := dr_cells HDR.out.2 hlt (Nat.le_refl _)
        obtain ⟨E, hE⟩ : ∃ E, E = l[j]'hlt := ⟨_, rfl⟩
        rw [← hE] at c0 c1
        obtain ⟨V, hV⟩ : ∃ V, V = wr.alloc (.cells #[.string (mk E.1), .int .i64 E.2] 35) := ⟨_, rfl⟩
        have bV : Below wr.heap.size wr V := by rw [hV]; exact bnew wr _
        have HBV : Hid (Below B w V) := hid_of (HBx.out.trans (bV.mono (Nat.le_trans HBB.out HBx.out.size)))
        have H2 := hid_of (HP.out E V HBV.out)
        have HEC : Hid (∀ W, Below V.heap.size V W → W.cell? ⟨wr.heap.size, 0, none⟩ = some (.string (mk E.1)) ∧ W.cell? ⟨wr.heap.size, 1, none⟩ = some (.int .i64 E.2)) := hid_of fun W hW => ⟨cell_on hW (by rw [hV]; simp), cell_on hW (by rw [hV]; simp)⟩
        have HDV : Hid (∀ W, Below V.heap.size V W → DR B g cap i j l ((l.take j).filter fun x => !p x) W) := hid_of fun W hW => dr_below (dr_below HDR.out.2 bV) hW
        have hft := filter_take_succ (p := fun x => !p x) hlt
        rw [← hE] at hft
        have HV := hid_of hV
        have HLi := hid_of HDR.out.1
        cases hq : p E with
        | true =>
          rw [hq] at H2 hft
          have HF2 : Hid ((l.take (j + 1)).filter (fun x => !p x) = (l.take j).filter fun x => !p x) := hid_of (by rw [hft]; simp)
          have HN2 : Hid (∀ W, Below V.heap.size V W → ((l.take (j + 1)).filter fun x => !p x).length = i ∧ DR B g cap i (j + 1) l ((l.take (j + 1)).filter fun x => !p x) W) := hid_of fun W hW => by
            rw [HF2.out]
            exact ⟨HLi.out, dr_more (HDV.out W hW)⟩
          clear hq hft hV bV HDR HDV HEC hE HF2
          unfold eV at H2
          generalize mk E.1 = X at *
          generalize E.2 = xx at *
          go_wp2_with (first | (go_at_fn g0; rw [← HV.out]; refine H2.out.mono ?_; rintro e w2 hw2; obtain ⟨rfl, b2⟩ := hw2; have HB2 := hid_of b2; clear b2))
          go_roundg g'
          case measure => omega
          case rel => exact ⟨i, j + 1, rfl, by rw [show ((j + 1 : Nat) : Int) = (j : Int) + 1 from by omega], by omega, by omega, by omega, hid_of (HN2.out w2 HB2.out), hid_of (HBV.out.trans (HB2.out.mono (Nat.le_trans HBB.out HBV.out.size)))⟩
        | false =>
          rw [hq] at H2 hft
          have HF2 : Hid ((l.take (j + 1)).filter (fun x => !p x) = ((l.take j).filter fun x => !p x) ++ [E]) := hid_of (by rw [hft]; simp)
          have HN2 : Hid (∀ W, Below V.heap.size V W → ((l.take (j + 1)).filter fun x => !p x).length = i + 1 ∧ DR B g cap (i + 1) (j + 1) l ((l.take (j + 1)).filter fun x => !p x) ((W.setCell ⟨g, i * 2, none⟩ (.string (mk E.1))).setCell ⟨g, i * 2 + 1, none⟩ (.int .i64 E.2))) := hid_of fun W hW => by
            rw [HF2.out, List.length_append, HLi.out]
            refine ⟨rfl, ?_⟩
            have hd := HDV.out W hW
            have hli := HLi.out
            have hd2 : DR B g cap ((l.take j).filter fun x => !p x).length j l ((l.take j).filter fun x => !p x) W := by rw [hli]; exact hd
            have hput := dr_put (e := E) hd2 (by rw [hli]; exact hij) (by rw [hli]; omega)
            rw [hli] at hput
            exact dr_more hput
          have HCC : Hid (∀ W, Below V.heap.size V W → ((∃ v0, W.cell? ⟨g, i * 2, none⟩ = some v0) ∧ W.frozen? ⟨g, i * 2, none⟩ = false) ∧ ((∃ v1, W.cell? ⟨g, i * 2 + 1, none⟩ = some v1) ∧ W.frozen? ⟨g, i * 2 + 1, none⟩ = false)) := hid_of fun W hW => by
            exact ⟨dr_any (HDV.out W hW) (by omega), dr_any (HDV.out W hW) (by omega)⟩
          clear hq hft hV bV HDR HDV hE HF2
          unfold eV at H2
          generalize mk E.1 = X at *
          generalize E.2 = xx at *
          go_wp2_with (first | (go_at_fn g0; rw [← HV.out]; refine H2.out.mono ?_; rintro e w2 hw2; obtain ⟨rfl, b2⟩ := hw2; have HB2 := hid_of b2; obtain ⟨i0, i1⟩ := HEC.out w2 b2; obtain ⟨⟨⟨v0, k0⟩, z0⟩, ⟨⟨v1, k1⟩, z1⟩⟩ := HCC.out w2 b2; clear b2))
          go_roundg g'
          case measure => omega
          case rel => exact ⟨i + 1, j + 1, by rw [show ((i + 1 : Nat) : Int) = (i : Int) + 1 from by omega], by rw [show ((j + 1 : Nat) : Int) = (j : Int) + 1 from by omega], by omega, by omega, by omega, hid_of (by have := HN2.out w2 HB2.out; simpa using this), hid_of (((HBV.out.trans (HB2.out.mono (Nat.le_trans HBB.out HBV.out.size))).setCell (p := ⟨g, _, none⟩) HgB.out _).setCell (p := ⟨g, _, none⟩) HgB.out _)⟩
      · obtain rfl : j = l.length := by omega
        have gi : ¬ (l.length : Int) < (l.length : Int) := by omega
        have hcut1 := cut_lo (some ⟨g, 0, none⟩) l.length cap i (by omega) wr
        have hca : ca (some ⟨g, 0, none⟩) cap i = some ⟨g, i * 2, none⟩ := by
          unfold ca
          rw [if_neg (by omega)]
          show some ((⟨g, 0, none⟩ : Addr).add (i * 2)) = _
          rw [Addr.add_lit, Nat.zero_add]
        rw [hca] at hcut1
        obtain ⟨L, hcl⟩ := clear_run wr g (i * 2) (l.length - i) (cap - i) 0 (by omega) (fun q hq => by obtain ⟨⟨v, hv⟩, _⟩ := dr_any HDR.out.2 (q := i * 2 + q) (by omega); rw [hv]; rfl) (fun q hq => (dr_any HDR.out.2 (q := i * 2 + q) (by omega)).2)
        have hcut2 := cut_hi (some ⟨g, 0, none⟩) l.length cap i (by omega)
        have HFO : Hid (OR B (wr.setCells g (i * 2) L) (.slice (some ⟨g, 0, none⟩) i cap) (l.filter fun x => !p x)) := hid_of (by
          have h1 := dr_or HDR.out.2 (by rw [HDR.out.1]; omega) hmax L
          rw [HDR.out.1, List.take_of_length_le (Nat.le_refl _)] at h1
          have h2 : (l.filter fun x => !p x).length = i := by have := HDR.out.1; rw [List.take_of_length_le (Nat.le_refl _)] at this; exact this
          show World.ownsRow _ _ _ _ _ (l.filter fun x => !p x).length _
          rw [h2]
          have h3 : World.ownsRow (wr.setCells g (i * 2) L) B _ 2 (.slice (some ⟨g, 0, none⟩) i cap) (l.filter fun x => !p x).length _ := h1
          rw [h2] at h3
          exact h3)
        have HFB : Hid (Below B w (wr.setCells g (i * 2) L)) := hid_of (below_set HgB.out _ _ _ _ HBx.out)
        clear HDR hca
        go_wp2_with fail
        go_ret
        exact ⟨_, rfl, HFO.out, HFB.out⟩
end Go.Proofs.YtighoelipihifabGreatDoor.Delete
