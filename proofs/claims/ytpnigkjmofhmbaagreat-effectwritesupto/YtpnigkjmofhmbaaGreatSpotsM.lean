/- The map that tells the place of each key: what a swap, a push, a pop and a new tick leave of it; over any keys. What may turn between two worlds: the blocks of a set. The row of an index over texts: what lies at its block; Len and Less. Raw: Swap of an index's row over texts. -/
import Derived.Test.YtpnigkjmofhmbaaGreatRiseMathM
import Derived.Maps.OwnSet
import Derived.BigQuiet
import Derived.Test.YtpnigkjmofhmbaaGreatBaseM
import Derived.Deep.RegionHeld3
import Derived.Deep.RegionWith
import Derived.BigRegion
section
namespace Go.Proofs.YtpnigkjmofhmbaaGreat.Spots
open Go.RowKit Go.Maps
open Go.Proofs.YtpnigkjmofhmbaaGreat.HeapMath
open Go.Proofs.YtpnigkjmofhmbaaGreat.Heap
set_option linter.unusedVariables false
set_option linter.unusedSimpArgs false
section
variable {κ : Type} [Inhabited κ] {lit : κ → Lit}
/-- keys as the map reads them -/
structure Lits (lit : κ → Lit) : Prop where
  inj : ∀ a b, lit a = lit b → a = b
  key : ∀ a, WideAt.IsKeyLit (lit a)
structure Spots (lit : κ → Lit) (D : DataW Unit) (l : List (κ × Int)) : Prop where
  size : Maps.size D = l.length
  some : ∀ i, i < l.length → Maps.has D (lit (pl l i).1) = true ∧ ∀ z, D.atKey (lit (pl l i).1) z = .lit (.int .i64 (i : Int))
  none : ∀ k, (∀ i, i < l.length → (pl l i).1 ≠ k) → Maps.has D (lit k) = false
/-- no key stands twice -/
def Apart (l : List (κ × Int)) : Prop := ∀ i j, i < l.length → j < l.length → (pl l i).1 = (pl l j).1 → i = j
abbrev num (i : Nat) : DataW Unit := .lit (.int .i64 (i : Int))
theorem Apart.swp {l : List (κ × Int)} (h : Apart l) {i j : Nat} (hi : i < l.length) (hj : j < l.length) : Apart (swp l i j) := by
  intro a b ha hb e
  rw [swp_len] at ha hb
  rw [swp_at hi hj, swp_at hi hj] at e
  by_cases a1 : a = j <;> by_cases a2 : a = i <;> by_cases b1 : b = j <;> by_cases b2 : b = i <;> simp only [a1, a2, b1, b2, if_true, if_false] at e <;> (try subst a1) <;> (try subst a2) <;> (try subst b1) <;> (try subst b2) <;> (try rfl) <;> (try simp_all) <;> (have := h _ _ (by assumption) (by assumption) e; omega)
theorem Spots.swp {D : DataW Unit} {l : List (κ × Int)} (h : Spots lit D l) (L : Lits lit) (T : Tidy D) (A : Apart l) {i j : Nat} (hi : i < l.length) (hj : j < l.length) :
    Spots lit ((D.put (lit (pl l j).1) (num i)).put (lit (pl l i).1) (num j)) (swp l i j) ∧ Tidy ((D.put (lit (pl l j).1) (num i)).put (lit (pl l i).1) (num j)) := by
  have T1 := T.put (L.key (pl l j).1) (num i)
  have T2 := T1.put (L.key (pl l i).1) (num j)
  refine ⟨⟨?_, fun k hk => ?_, fun k hk => ?_⟩, T2⟩
  · have h1 : Maps.has (D.put (lit (pl l j).1) (num i)) (lit (pl l i).1) = true := by
      by_cases q : lit (pl l i).1 = lit (pl l j).1
      · rw [q]; exact has_put_same T.isMap (L.key _) _
      · rw [has_put_other q]; exact (h.some i hi).1
    rw [size_put T1, if_pos h1, size_put T, if_pos (h.some j hj).1, swp_len]
    exact h.size
  · rw [swp_len] at hk
    rw [swp_at hi hj]
    by_cases q1 : k = j
    · subst q1
      rw [if_pos rfl]
      exact ⟨has_put_same T1.isMap (L.key _) _, fun z => atKey_put_same T1.isMap (L.key _) _ z⟩
    · rw [if_neg q1]
      by_cases q2 : k = i
      · subst q2
        rw [if_pos rfl]
        have ne : lit (pl l j).1 ≠ lit (pl l k).1 := fun e => q1 (A k j hk hj (L.inj _ _ e).symm)
        rw [has_put_other ne]
        refine ⟨has_put_same T.isMap (L.key _) _, fun z => ?_⟩
        rw [atKey_put_other ne]
        exact atKey_put_same T.isMap (L.key _) _ z
      · rw [if_neg q2]
        have ne1 : lit (pl l k).1 ≠ lit (pl l i).1 := fun e => q2 (A k i hk hi (L.inj _ _ e))
        have ne2 : lit (pl l k).1 ≠ lit (pl l j).1 := fun e => q1 (A k j hk hj (L.inj _ _ e))
        rw [has_put_other ne1, has_put_other ne2]
        refine ⟨(h.some k hk).1, fun z => ?_⟩
        rw [atKey_put_other ne1, atKey_put_other ne2]
        exact (h.some k hk).2 z
  · have hi2 := hk j (by rw [swp_len]; exact hj)
    have hj2 := hk i (by rw [swp_len]; exact hi)
    rw [swp_at hi hj, if_pos rfl] at hi2
    have ne1 : lit k ≠ lit (pl l i).1 := fun e => hi2 (L.inj _ _ e).symm
    have ne2 : lit k ≠ lit (pl l j).1 := fun e => by
      rw [swp_at hi hj] at hj2
      by_cases q : i = j
      · subst q; exact ne1 e
      · rw [if_neg q, if_pos rfl] at hj2; exact hj2 (L.inj _ _ e).symm
    rw [has_put_other ne1, has_put_other ne2]
    refine h.none k fun m hm e => ?_
    by_cases q1 : m = i
    · subst q1; exact hi2 e
    · by_cases q2 : m = j
      · subst q2; exact ne2 (by rw [e])
      · have := hk m (by rw [swp_len]; exact hm)
        rw [swp_at hi hj, if_neg q2, if_neg q1] at this
        exact this e
theorem Apart.push {l : List (κ × Int)} (h : Apart l) {a : κ × Int} (ha : ∀ i, i < l.length → (pl l i).1 ≠ a.1) : Apart (l ++ [a]) := by
  intro i j hi hj e
  simp at hi hj
  rw [pl_app, pl_app] at e
  by_cases q1 : i = l.length <;> by_cases q2 : j = l.length
  · omega
  · rw [if_pos q1, if_neg q2] at e; exact absurd e.symm (ha j (by omega))
  · rw [if_neg q1, if_pos q2] at e; exact absurd e (ha i (by omega))
  · rw [if_neg q1, if_neg q2] at e; exact h i j (by omega) (by omega) e
theorem Spots.push {D : DataW Unit} {l : List (κ × Int)} (h : Spots lit D l) (L : Lits lit) (T : Tidy D) {a : κ × Int} (ha : ∀ i, i < l.length → (pl l i).1 ≠ a.1) :
    Spots lit (D.put (lit a.1) (num l.length)) (l ++ [a]) ∧ Tidy (D.put (lit a.1) (num l.length)) := by
  refine ⟨⟨?_, fun k hk => ?_, fun k hk => ?_⟩, T.put (L.key _) _⟩
  · rw [size_put T, if_neg (by rw [h.none _ ha]; simp), h.size]; simp
  · simp at hk
    rw [pl_app]
    by_cases q : k = l.length
    · rw [if_pos q, q]
      exact ⟨has_put_same T.isMap (L.key _) _, fun z => atKey_put_same T.isMap (L.key _) _ z⟩
    · rw [if_neg q]
      have ne : lit (pl l k).1 ≠ lit a.1 := fun e => ha k (by omega) (L.inj _ _ e)
      rw [has_put_other ne]
      refine ⟨(h.some k (by omega)).1, fun z => ?_⟩
      rw [atKey_put_other ne]
      exact (h.some k (by omega)).2 z
  · have h1 := hk l.length (by simp)
    rw [pl_app, if_pos rfl] at h1
    rw [has_put_other (fun e => h1 (L.inj _ _ e).symm)]
    refine h.none k fun m hm => ?_
    have := hk m (by simp; omega)
    rw [pl_app, if_neg (by omega)] at this
    exact this
theorem Apart.take {l : List (κ × Int)} (h : Apart l) (n : Nat) : Apart (l.take n) := by
  intro i j hi hj e
  rw [List.length_take] at hi hj
  rw [pl_take (by omega), pl_take (by omega)] at e
  exact h i j (by omega) (by omega) e
theorem Spots.pop {D : DataW Unit} {l : List (κ × Int)} (h : Spots lit D l) (L : Lits lit) (T : Tidy D) (A : Apart l) (h0 : 0 < l.length) :
    Spots lit (D.del (lit (pl l (l.length - 1)).1)) (l.take (l.length - 1)) := by
  have e0 : (l.take (l.length - 1)).length = l.length - 1 := by rw [List.length_take]; omega
  refine ⟨?_, fun k hk => ?_, fun k hk => ?_⟩
  · have := size_del (k := lit (pl l (l.length - 1)).1) T
    rw [if_pos (h.some _ (by omega)).1, h.size] at this
    rw [e0]; omega
  · rw [e0] at hk
    rw [pl_take hk]
    have ne : lit (pl l k).1 ≠ lit (pl l (l.length - 1)).1 := fun e => by
      have := A k (l.length - 1) (by omega) (by omega) (L.inj _ _ e); omega
    rw [has_del_other ne]
    refine ⟨(h.some k (by omega)).1, fun z => ?_⟩
    rw [atKey_del_other ne]
    exact (h.some k (by omega)).2 z
  · by_cases q : k = (pl l (l.length - 1)).1
    · rw [q]; exact has_del_same
    · rw [has_del_other (fun e => q (L.inj _ _ e))]
      refine h.none k fun m hm e => ?_
      by_cases q2 : m = l.length - 1
      · rw [q2] at e; exact q e.symm
      · exact hk m (by rw [e0]; omega) (by rw [pl_take (by omega)]; exact e)
theorem keys_set {l : List (κ × Int)} {i : Nat} (hi : i < l.length) (t : Int) (k : Nat) : (pl (l.set i ((pl l i).1, t)) k).1 = (pl l k).1 := by
  rw [pl_set hi]
  by_cases q : k = i
  · rw [if_pos q, q]
  · rw [if_neg q]
theorem Apart.set {l : List (κ × Int)} (h : Apart l) {i : Nat} (hi : i < l.length) (t : Int) : Apart (l.set i ((pl l i).1, t)) := by
  intro a b ha hb e
  rw [keys_set hi, keys_set hi] at e
  simp at ha hb
  exact h a b ha hb e
theorem Spots.set {D : DataW Unit} {l : List (κ × Int)} (h : Spots lit D l) {i : Nat} (hi : i < l.length) (t : Int) : Spots lit D (l.set i ((pl l i).1, t)) := by
  refine ⟨by simpa using h.size, fun k hk => ?_, fun k hk => ?_⟩
  · rw [keys_set hi]; exact h.some k (by simpa using hk)
  · refine h.none k fun m hm => ?_
    have := hk m (by simpa using hm)
    rw [keys_set hi] at this
    exact this
end
theorem litS : Lits (fun k : List UInt8 => Lit.string k) := ⟨fun a b e => by cases e; rfl, fun a => by simp [WideAt.IsKeyLit]⟩
theorem litI : Lits (fun k : Int => Lit.int .i64 k) := ⟨fun a b e => by cases e; rfl, fun a => by simp [WideAt.IsKeyLit]⟩
end Go.Proofs.YtpnigkjmofhmbaaGreat.Spots
end
section
namespace Go.Proofs.YtpnigkjmofhmbaaGreat.Turn
open Go.RowKit Go.Maps
set_option linter.unusedVariables false
set_option linter.unusedSimpArgs false
theorem lt_of {w : World} {b : Nat} {o : Obj} (h : w.heap[b]? = some o) : b < w.heap.size := (Array.getElem?_eq_some_iff.1 h).1

/- what kind of block -/
def kd (w : World) (k : Nat) : Nat := match w.heap[k]? with
  | some (.cells _ t _) => t + 2
  | some (.map _ _) => 1
  | _ => 0
theorem kd_cells {w : World} {k : Nat} {cs : Array Value} {t : TypeId} {fz : Nat × Nat} (h : w.heap[k]? = some (.cells cs t fz)) : kd w k = t + 2 := by unfold kd; rw [h]
theorem kd_map {w : World} {k : Nat} {es : Array MapEntry} {c : Nat} (h : w.heap[k]? = some (.map es c)) : kd w k = 1 := by unfold kd; rw [h]
theorem kd_eq {w w' : World} {k : Nat} (h : w'.heap[k]? = w.heap[k]?) : kd w' k = kd w k := by unfold kd; rw [h]
/- the blocks of M may turn -/
structure Ev (M : Nat → Prop) (w w' : World) : Prop where
  os : w'.os = w.os
  tape : w'.tape = w.tape
  output : w'.output = w.output
  size : w.heap.size ≤ w'.heap.size
  block : ∀ k, k < w.heap.size → ¬ M k → w'.heap[k]? = w.heap[k]?
theorem Ev.refl (M : Nat → Prop) (w : World) : Ev M w w := ⟨rfl, rfl, rfl, Nat.le_refl _, fun _ _ _ => rfl⟩
theorem Ev.trans {M : Nat → Prop} {a b c : World} (h : Ev M a b) (k : Ev M b c) : Ev M a c :=
  ⟨k.os.trans h.os, k.tape.trans h.tape, k.output.trans h.output, Nat.le_trans h.size k.size,
    fun i hi ht => (k.block i (Nat.lt_of_lt_of_le hi h.size) ht).trans (h.block i hi ht)⟩
theorem Ev.mono {M N : Nat → Prop} {a b : World} (h : Ev M a b) (hM : ∀ k, k < a.heap.size → M k → N k) : Ev N a b := ⟨h.os, h.tape, h.output, h.size, fun k hk hn => h.block k hk (fun e => hn (hM k hk e))⟩
theorem Ev.of_below {M : Nat → Prop} {a b : World} (h : Below a.heap.size a b) : Ev M a b := ⟨h.os, h.tape, h.output, h.size, fun k hk _ => h.block k hk⟩
theorem Ev.below {M : Nat → Prop} {base : Nat} {a b : World} (h : Ev M a b) (hb : base ≤ a.heap.size) (hM : ∀ k, M k → base ≤ k) : Below base a b := ⟨h.os, h.tape, h.output, h.size, fun k hk => h.block k (by omega) (fun e => by have := hM k e; omega)⟩
theorem Ev.alloc {M : Nat → Prop} {a b : World} (h : Ev M a b) (o : Obj) : Ev M a (b.alloc o) := h.trans (Ev.of_below ((Below.refl _ b).alloc (Nat.le_refl _) o))
theorem Ev.drew {M : Nat → Prop} {a b : World} (h : Ev M a b) : Ev M a b.drew := ⟨h.os, h.tape, h.output, h.size, h.block⟩
theorem Ev.drewN {M : Nat → Prop} {a b : World} (h : Ev M a b) (n : Nat) : Ev M a (b.drewN n) := ⟨h.os, h.tape, h.output, h.size, h.block⟩
theorem set_at {w : World} {b i : Nat} {cs : Array Value} {ty : TypeId} {fz : Nat × Nat} (h : w.heap[b]? = some (.cells cs ty fz)) (v : Value) : (w.setCell ⟨b, i, none⟩ v).heap[b]? = some (.cells (cs.setIfInBounds i v) ty fz) := by
  have e2 : (w.setCell ⟨b, i, none⟩ v).heap[b]? = (w.heap[b]?).map (fun | .cells c elem frozen => .cells (if (none : Option Nat).isSome then c else c.setIfInBounds i v) elem frozen | o => o) := by
    show (w.heap.modify b _)[b]? = _
    rw [Array.getElem?_modify, if_pos rfl]
    rfl
  rw [e2, h]; rfl
theorem set_ne {w : World} {b i k : Nat} (h : k ≠ b) (v : Value) : (w.setCell ⟨b, i, none⟩ v).heap[k]? = w.heap[k]? := Below.heap_setCell _ _ _ _ h
theorem size_set {w : World} (p : Addr) (v : Value) : (w.setCell p v).heap.size = w.heap.size := by simp [World.setCell]
/- a world in which one block of M has turned -/
theorem Ev.one {M : Nat → Prop} {w w' : World} {g : Nat} (h : w.grownBy w' (some g)) (hb : M g) : Ev M w w' :=
  ⟨h.os, h.tape, h.output, h.size, fun k hk hT => h.block k hk (by rintro x; cases x; exact hT hb)⟩
theorem Ev.set {M : Nat → Prop} {w : World} {g i : Nat} (hb : M g) (v : Value) : Ev M w (w.setCell ⟨g, i, none⟩ v) := by
  have e0 : Below 0 w (w.setCell ⟨g, i, none⟩ v) := (Below.refl 0 w).setCell (Nat.zero_le _) v
  exact ⟨e0.os, e0.tape, e0.output, e0.size, fun k hk hn => set_ne (fun x => hn (by rw [x]; exact hb)) v⟩
theorem Ev.turned {M : Nat → Prop} {w w' : World} {b : Nat} (h : w.mapTurned w' b) (hb : M b) : Ev M w w' := Ev.one h.grown hb
theorem Ev.none {M : Nat → Prop} {w w' : World} (h : w.grownBy w' Option.none) : Ev M w w' := ⟨h.os, h.tape, h.output, h.size, fun k hk _ => h.block k hk (by simp)⟩
end Go.Proofs.YtpnigkjmofhmbaaGreat.Turn
end
section
namespace Go.Proofs.YtpnigkjmofhmbaaGreat.RowB
open Go.RowKit Go.Maps
open Go.Proofs.YtpnigkjmofhmbaaGreat.HeapMath
open Go.Proofs.YtpnigkjmofhmbaaGreat.Heap
open Go.Proofs.YtpnigkjmofhmbaaGreat.Turn
open Go.Proofs.YtpnigkjmofhmbaaGreat.Before
open Go.Proofs.YtpnigkjmofhmbaaGreat.Base (mk mk_list)
open Go.Proofs.YtpnigkjmofhmbaaGreat.Spots
set_option linter.unusedVariables false
set_option linter.unusedSimpArgs false
abbrev Es := List (Bs × Int)
def cS (e : Bs × Int) : List Value := [.string (mk e.1), .int .i64 e.2]
abbrev ptr (b : Nat) : Value := .pointer (some ⟨b, 0, none⟩)
abbrev lS : Bs → Lit := fun k => Lit.string k
structure RowAt (M : Nat → Prop) (b : Nat) (ev mv : Value) (l : Es) (w : World) : Prop where
  idx : w.heap[b]? = some (.cells #[ev, mv] 153 (0, 0))
  bb : M b
  ent : w.ownsRow 0 156 2 ev l.length (l.flatMap cS)
  map : (mv = .map none ∧ l = []) ∨ ∃ bm D, mv = .map (some bm) ∧ M bm ∧ w.ownsMap Tryz.prog 9 (plainElem Tryz.prog 3) bm l.length D ∧ Spots lS D l
  keys : Apart l
  wide : ∀ e ∈ l, e.1.length ≤ 281474976710656
  eb : ∀ g, ev.ownBlock = some g → M g
  up : ∀ k, w.heap.size ≤ k → M k
def RS (M : Nat → Prop) (b : Nat) (w : World) (l : Es) : Prop := ∃ ev mv, RowAt M b ev mv l w
theorem c_len (l : Es) : (l.flatMap cS).length = l.length * 2 := by
  induction l with
  | nil => rfl
  | cons e r ih => simp [cS, ih]; omega
theorem c_get (l : Es) (i : Nat) (h : i < l.length) : (l.flatMap cS)[i * 2]? = some (.string (mk l[i].1)) ∧ (l.flatMap cS)[i * 2 + 1]? = some (.int .i64 l[i].2) := by
  induction l generalizing i with
  | nil => exact absurd h (by simp)
  | cons e r ih =>
    cases i with
    | zero => exact ⟨rfl, rfl⟩
    | succ i =>
      have := ih i (by simpa using h)
      rw [List.flatMap_cons]
      rw [List.getElem?_append_right (by simp [cS]; omega), List.getElem?_append_right (by simp [cS]; omega)]
      rw [show (i + 1) * 2 - (cS e).length = i * 2 by simp [cS]; omega, show (i + 1) * 2 + 1 - (cS e).length = i * 2 + 1 by simp [cS]; omega]
      exact this
theorem row_shape {base : Nat} {w : World} {v : Value} {l : Es} (h : w.ownsRow base 156 2 v l.length (l.flatMap cS)) : ∃ a c, v = .slice a l.length c := by
  rcases h.2 with ⟨rfl, hn⟩ | ⟨g, cap, cur, rfl, _⟩
  · rw [hn]; exact ⟨_, _, rfl⟩
  · exact ⟨_, _, rfl⟩
theorem row_block {base : Nat} {w : World} {v : Value} {l : Es} (h : w.ownsRow base 156 2 v l.length (l.flatMap cS)) (h0 : 0 < l.length) : ∃ g c, v = .slice (some ⟨g, 0, none⟩) l.length c ∧ base ≤ g ∧ ∀ i (hi : i < l.length), w.cell? ⟨g, i * 2, none⟩ = some (.string (mk l[i].1)) ∧ w.cell? ⟨g, i * 2 + 1, none⟩ = some (.int .i64 l[i].2) := by
  have h' := h
  rcases h.2 with ⟨rfl, hn⟩ | ⟨g, cap, cur, rfl, hb, _⟩
  · omega
  · refine ⟨g, cap, rfl, hb, fun i hi => ?_⟩
    have c1 := h'.cells (g := g) rfl (i * 2) _ (c_get l i hi).1
    have c2 := h'.cells (g := g) rfl (i * 2 + 1) _ (c_get l i hi).2
    simp only [Addr.add, Nat.zero_add] at c1 c2
    have e0 : (if i * 2 = 0 then (⟨g, 0, none⟩ : Addr) else ⟨g, i * 2, none⟩) = ⟨g, i * 2, none⟩ := by split <;> simp_all
    exact ⟨by simpa [e0] using c1, by simpa using c2⟩
set_option maxRecDepth 100000 in
theorem len_call {M : Nat → Prop} {b : Nat} {l : Es} {w : World} (h : RS M b w l) : Calls Tryz.prog 207 #[ptr b] w fun e w' => e = .returned (.int .i64 (l.length : Int)) ∧ w' = w := by
  obtain ⟨ev, mv, h⟩ := h
  obtain ⟨a, c, rfl⟩ := row_shape h.ent
  have c0 : w.cell? ⟨b, 0, none⟩ = some (.slice a l.length c) := by simp [World.cell?, h.idx]
  clear h
  go_enter Tryz.func207, Tryz.ntmps207
  go_wp2_with fail
  go_ret
  exact ⟨rfl, rfl⟩
set_option maxHeartbeats 2000000 in
set_option maxRecDepth 100000 in
theorem less_call {M : Nat → Prop} {b : Nat} {l : Es} {w : World} (h : RS M b w l) (i j : Nat) (hi : i < l.length) (hj : j < l.length) (hb : l.length < 1099511627776) : Calls Tryz.prog 211 #[ptr b, .int .i64 (i : Int), .int .i64 (j : Int)] w fun e w' => e = .returned (.bool (decide (ltS (pl l i) (pl l j)))) ∧ Below w.heap.size w w' := by
  obtain ⟨ev, mv, h⟩ := h
  obtain ⟨g, c, rfl, _, hc⟩ := row_block h.ent (by omega)
  have c0 : w.cell? ⟨b, 0, none⟩ = some (.slice (some ⟨g, 0, none⟩) l.length c) := by simp [World.cell?, h.idx]
  have HB := hid_of (fun W => beforeS l[i] l[j] W)
  obtain ⟨i0, i1⟩ := hc i hi
  obtain ⟨j0, j1⟩ := hc j hj
  rw [pl_in hi, pl_in hj]
  have HI := hid_of (show eS l[i] = .agg #[.string (mk l[i].1), .int .i64 l[i].2] from rfl)
  rw [show eS l[i] = .agg #[.string (mk l[i].1), .int .i64 l[i].2] from rfl, show eS l[j] = .agg #[.string (mk l[j].1), .int .i64 l[j].2] from rfl] at HB
  generalize decide (ltS l[i] l[j]) = r at *
  generalize mk l[i].1 = ki at *
  generalize mk l[j].1 = kj at *
  generalize l[i].2 = ti at *
  generalize l[j].2 = tj at *
  clear h hc HI
  go_enter Tryz.func211, Tryz.ntmps211
  go_wp2_with fail
  go_region_with (first | (go_at_call 210; refine (HB.out _).mono ?_; rintro e w1 ⟨rfl, hbl⟩; have Q := hid_of hbl; clear hbl))
  all_goals
    go_wp2_with fail
    go_ret
    exact ⟨rfl, (Below.refl _ w).drew.trans Q.out⟩
end Go.Proofs.YtpnigkjmofhmbaaGreat.RowB
end
section
namespace Go.Proofs.YtpnigkjmofhmbaaGreat.SwapR
open Go.RowKit Go.Maps
open Go.Proofs.YtpnigkjmofhmbaaGreat.HeapMath
open Go.Proofs.YtpnigkjmofhmbaaGreat.Heap
open Go.Proofs.YtpnigkjmofhmbaaGreat.Turn
open Go.Proofs.YtpnigkjmofhmbaaGreat.Before
open Go.Proofs.YtpnigkjmofhmbaaGreat.Base (mk mk_list)
open Go.Proofs.YtpnigkjmofhmbaaGreat.Spots
open Go.Proofs.YtpnigkjmofhmbaaGreat.RowB
set_option linter.unusedVariables false
set_option linter.unusedSimpArgs false
set_option maxHeartbeats 4000000 in
set_option maxRecDepth 100000 in
theorem swap_raw (b g n c i j : Nat) (w W1 W2 W3 : World) (ki kj : ByteArray) (ti tj : Int) (hi : i < n) (hj : j < n) (hn : n < 1099511627776) (mb : Option Nat) (hbg : b ≠ g) (hij : i ≠ j)
    (c0 : w.cell? ⟨b, 0, none⟩ = some (.slice (some ⟨g, 0, none⟩) n c)) 
    (i0 : w.cell? ⟨g, i * 2, none⟩ = some (.string ki)) (i1 : w.cell? ⟨g, i * 2 + 1, none⟩ = some (.int .i64 ti)) (j0 : w.cell? ⟨g, j * 2, none⟩ = some (.string kj)) (j1 : w.cell? ⟨g, j * 2 + 1, none⟩ = some (.int .i64 tj))
    (fi0 : w.frozen? ⟨g, i * 2, none⟩ = false) (fi1 : w.frozen? ⟨g, i * 2 + 1, none⟩ = false) (fj0 : w.frozen? ⟨g, j * 2, none⟩ = false) (fj1 : w.frozen? ⟨g, j * 2 + 1, none⟩ = false)
    (HW : Hid (((((w.setCell ⟨g, i * 2, none⟩ (.string kj)).setCell ⟨g, i * 2 + 1, none⟩ (.int .i64 tj)).setCell ⟨g, j * 2, none⟩ (.string ki)).setCell ⟨g, j * 2 + 1, none⟩ (.int .i64 ti)).drew = W1))
    (H1 : Hid (W1.cell? ⟨b, 0, none⟩ = some (.slice (some ⟨g, 0, none⟩) n c) ∧ W1.cell? ⟨b, 1, none⟩ = some (.map mb) ∧ W1.cell? ⟨g, i * 2, none⟩ = some (.string kj) ∧ (Instr.mapUpdate 149 (.map mb) (.string kj) (.int .i64 (i : Int))).run Tryz.prog W1.drew = .ok () W2))
    (H2 : Hid (W2.cell? ⟨b, 0, none⟩ = some (.slice (some ⟨g, 0, none⟩) n c) ∧ W2.cell? ⟨b, 1, none⟩ = some (.map mb) ∧ W2.cell? ⟨g, j * 2, none⟩ = some (.string ki) ∧ (Instr.mapUpdate 149 (.map mb) (.string ki) (.int .i64 (j : Int))).run Tryz.prog W2.drew = .ok () W3)) : Calls Tryz.prog 214 #[.pointer (some ⟨b, 0, none⟩), .int .i64 (i : Int), .int .i64 (j : Int)] w fun e w' => e = .returned (.tuple #[]) ∧ w' = W3 := by
  go_enter Tryz.func214, Tryz.ntmps214
  go_wp2_with fail
  go_region
  rw [HW.out]
  clear c0 i0 i1 j0 j1 fi0 fi1 fj0 fj1 HW
  obtain ⟨c0, c1, i0, hu⟩ := H1.out
  go_wp2_with fail
  go_region
  clear c0 c1 i0 hu
  obtain ⟨c0, c1, j0, hu⟩ := H2.out
  go_wp2_with fail
  go_region
  go_end0
  exact ⟨rfl, rfl⟩
set_option maxHeartbeats 4000000 in
set_option maxRecDepth 100000 in
theorem swap_raw1 (b g n c i : Nat) (w W1 W2 W3 : World) (ki : ByteArray) (ti : Int) (hi : i < n) (hn : n < 1099511627776) (mb : Option Nat) (hbg : b ≠ g)
    (c0 : w.cell? ⟨b, 0, none⟩ = some (.slice (some ⟨g, 0, none⟩) n c)) 
    (i0 : w.cell? ⟨g, i * 2, none⟩ = some (.string ki)) (i1 : w.cell? ⟨g, i * 2 + 1, none⟩ = some (.int .i64 ti))
    (fi0 : w.frozen? ⟨g, i * 2, none⟩ = false) (fi1 : w.frozen? ⟨g, i * 2 + 1, none⟩ = false)
    (q0 : (w.setCell ⟨g, i * 2, none⟩ (.string ki)).cell? ⟨g, i * 2, none⟩ = some (.string ki)) (q1 : (w.setCell ⟨g, i * 2 + 1, none⟩ (.int .i64 ti)).cell? ⟨g, i * 2 + 1, none⟩ = some (.int .i64 ti))
    (HW : Hid (((((w.setCell ⟨g, i * 2, none⟩ (.string ki)).setCell ⟨g, i * 2 + 1, none⟩ (.int .i64 ti)).setCell ⟨g, i * 2, none⟩ (.string ki)).setCell ⟨g, i * 2 + 1, none⟩ (.int .i64 ti)).drew = W1))
    (H1 : Hid (W1.cell? ⟨b, 0, none⟩ = some (.slice (some ⟨g, 0, none⟩) n c) ∧ W1.cell? ⟨b, 1, none⟩ = some (.map mb) ∧ W1.cell? ⟨g, i * 2, none⟩ = some (.string ki) ∧ (Instr.mapUpdate 149 (.map mb) (.string ki) (.int .i64 (i : Int))).run Tryz.prog W1.drew = .ok () W2))
    (H2 : Hid (W2.cell? ⟨b, 0, none⟩ = some (.slice (some ⟨g, 0, none⟩) n c) ∧ W2.cell? ⟨b, 1, none⟩ = some (.map mb) ∧ W2.cell? ⟨g, i * 2, none⟩ = some (.string ki) ∧ (Instr.mapUpdate 149 (.map mb) (.string ki) (.int .i64 (i : Int))).run Tryz.prog W2.drew = .ok () W3)) : Calls Tryz.prog 214 #[.pointer (some ⟨b, 0, none⟩), .int .i64 (i : Int), .int .i64 (i : Int)] w fun e w' => e = .returned (.tuple #[]) ∧ w' = W3 := by
  go_enter Tryz.func214, Tryz.ntmps214
  go_wp2_with fail
  go_region
  rw [HW.out]
  clear c0 i0 i1 fi0 fi1 HW
  obtain ⟨c0, c1, i0, hu⟩ := H1.out
  go_wp2_with fail
  go_region
  clear c0 c1 i0 hu
  obtain ⟨c0, c1, j0, hu⟩ := H2.out
  go_wp2_with fail
  go_region
  go_end0
  exact ⟨rfl, rfl⟩
end Go.Proofs.YtpnigkjmofhmbaaGreat.SwapR
end
