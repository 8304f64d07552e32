/- A rank in memory: entries in slices, the tree, the map, the rank's own block; what a call may touch. -/
import Derived.Test.YtighoelipihifabGreatDoorRows
import Derived.Test.YtighoelipihifabGreatDoorRankMath3
import Derived.WalkKit
import Derived.WalkSmall
import Derived.WalkLawsBesides
import Derived.WalkSpells
import Derived.BigQuiet
import Derived.Below
import Derived.Deep.LoopGhost
import Derived.Deep.RegionWith
import Derived.Deep.RegionHeld3
import Derived.Deep.AppendSrc
import Derived.Deep.DeepAppendWide
import Derived.Maps.RangeWalk
import Derived.Maps.OwnSet
import Derived.Sort.Walk0
import Derived.Lib.Strings
import Derived.OwnWalk
namespace Go.Proofs.YtighoelipihifabGreatDoor.Base
open Go.RowKit Go.Maps Go.Sort
open Go.Proofs.YtighoelipihifabGreatDoor.MapMath
open Go.Proofs.YtighoelipihifabGreatDoor.RankMath
open Go.Proofs.YtighoelipihifabGreatDoor.RankMath2
open Go.Proofs.YtighoelipihifabGreatDoor.RankMath3
set_option linter.unusedVariables false

def bs (s : ByteArray) : List UInt8 := s.data.toList
theorem len_bs (s : ByteArray) : (bs s).length = s.size := by unfold bs; simp
def mk (l : List UInt8) : ByteArray := ⟨l.toArray⟩
theorem bs_mk (l : List UInt8) : bs (mk l) = l := rfl
theorem mk_bs (s : ByteArray) : mk (bs s) = s := by cases s; simp [mk, bs]
theorem mk_size (l : List UInt8) : (mk l).size = l.length := by rw [← len_bs, bs_mk]
theorem of_bs {a b : ByteArray} (h : bs a = bs b) : a = b := by rw [← mk_bs a, ← mk_bs b, h]
theorem mk_list (l : List UInt8) : (mk l).toList = l := by rw [Lib.toList_data]; rfl
theorem hid_of {p : Prop} (h : p) : Hid p := h
theorem lt_of {w : World} {b : Nat} {o : Obj} (h : w.heap[b]? = some o) : b < w.heap.size := (Array.getElem?_eq_some_iff.1 h).1
theorem str_eq (a b : List UInt8) : ((mk a).toList == (mk b).toList) = (a == b) := by rw [mk_list, mk_list]
theorem less_mk (a b : Bs) : Op.bytesLess (mk a).toList (mk b).toList = decide (a < b) := by rw [mk_list, mk_list]; exact bytesLess_eq _ _
theorem bdrew {B : Nat} {w w' : World} (h : Below B w w') (n : Nat) : Below B w (w'.drewN n) := ⟨h.os, h.tape, h.output, h.size, h.block⟩
theorem bel {B : Nat} {a b c : World} (h : Below B a b) (k : Below b.heap.size b c) (hB : B ≤ a.heap.size) : Below B a c := h.trans (k.mono (Nat.le_trans hB h.size))
theorem bnew (w : World) (o : Obj) : Below w.heap.size w (w.alloc o) := (Below.refl _ w).alloc (Nat.le_refl _) o
theorem ret_b {a b : Bool} (h : a = b) : Ending.returned (.bool a) = .returned (.bool b) := by rw [h]
abbrev big : Nat := 9000000000000

/- what kind of block -/
def kd (w : World) (k : Nat) : Nat := match w.heap[k]? with
  | some (.cells _ t _) => t + 2
  | some (.map _ _) => 1
  | _ => 0
theorem kd_cells {w : World} {k : Nat} {cs : Array Value} {t : TypeId} {fz : Nat × Nat} (h : w.heap[k]? = some (.cells cs t fz)) : kd w k = t + 2 := by unfold kd; rw [h]
theorem kd_map {w : World} {k : Nat} {es : Array MapEntry} {c : Nat} (h : w.heap[k]? = some (.map es c)) : kd w k = 1 := by unfold kd; rw [h]
theorem kd_eq {w w' : World} {k : Nat} (h : w'.heap[k]? = w.heap[k]?) : kd w' k = kd w k := by unfold kd; rw [h]
/- blocks of S may turn, keeping their kind -/
structure Mo (S : Nat → Prop) (w w' : World) : Prop where
  os : w'.os = w.os
  tape : w'.tape = w.tape
  output : w'.output = w.output
  size : w.heap.size ≤ w'.heap.size
  kind : ∀ k, k < w.heap.size → kd w' k = kd w k
  block : ∀ k, k < w.heap.size → ¬ S k → w'.heap[k]? = w.heap[k]?
theorem Mo.refl (S : Nat → Prop) (w : World) : Mo S w w := ⟨rfl, rfl, rfl, Nat.le_refl _, fun _ _ => rfl, fun _ _ _ => rfl⟩
theorem Mo.trans {S S' : Nat → Prop} {a b c : World} (h : Mo S a b) (k : Mo S' b c) (hs : ∀ i, i < a.heap.size → S' i → S i) : Mo S a c :=
  ⟨k.os.trans h.os, k.tape.trans h.tape, k.output.trans h.output, Nat.le_trans h.size k.size, fun i hi => (k.kind i (Nat.lt_of_lt_of_le hi h.size)).trans (h.kind i hi),
    fun i hi ht => (k.block i (Nat.lt_of_lt_of_le hi h.size) (fun e => ht (hs i hi e))).trans (h.block i hi ht)⟩
theorem Mo.mono {S S' : Nat → Prop} {a b : World} (h : Mo S a b) (hs : ∀ i, i < a.heap.size → S i → S' i) : Mo S' a b := ⟨h.os, h.tape, h.output, h.size, h.kind, fun k hk ht => h.block k hk (fun e => ht (hs k hk e))⟩
theorem Mo.of_below {S : Nat → Prop} {a b : World} (h : Below a.heap.size a b) : Mo S a b := ⟨h.os, h.tape, h.output, h.size, fun k hk => kd_eq (h.block k hk), fun k hk _ => h.block k hk⟩
theorem Mo.then_below {S : Nat → Prop} {a b c : World} (h : Mo S a b) (k : Below b.heap.size b c) : Mo S a c := h.trans (Mo.of_below (S := fun _ => False) k) (fun _ _ e => e.elim)
theorem Mo.alloc {S : Nat → Prop} {a b : World} (h : Mo S a b) (o : Obj) : Mo S a (b.alloc o) := h.then_below (bnew b o)
theorem Mo.drewN {S : Nat → Prop} {a b : World} (h : Mo S a b) (n : Nat) : Mo S a (b.drewN n) := ⟨h.os, h.tape, h.output, h.size, h.kind, h.block⟩
theorem Mo.drew {S : Nat → Prop} {a b : World} (h : Mo S a b) : Mo S a b.drew := ⟨h.os, h.tape, h.output, h.size, h.kind, h.block⟩
theorem Mo.to_below {S : Nat → Prop} {B : Nat} {a b : World} (h : Mo S a b) (hB : B ≤ a.heap.size) (hs : ∀ i, S i → B ≤ i) : Below B a b := ⟨h.os, h.tape, h.output, h.size, fun k hk => h.block k (by omega) (fun e => by have := hs k e; omega)⟩
theorem set_at {w : World} {b i : Nat} {cs : Array Value} {ty : TypeId} {fz : Nat × Nat} (h : w.heap[b]? = some (.cells cs ty fz)) (v : Value) : (w.setCell ⟨b, i, none⟩ v).heap[b]? = some (.cells (cs.setIfInBounds i v) ty fz) := by
  have e2 : (w.setCell ⟨b, i, none⟩ v).heap[b]? = (w.heap[b]?).map (fun | .cells c elem frozen => .cells (if (none : Option Nat).isSome then c else c.setIfInBounds i v) elem frozen | o => o) := by
    show (w.heap.modify b _)[b]? = _
    rw [Array.getElem?_modify, if_pos rfl]
    rfl
  rw [e2, h]; rfl
theorem set_ne {w : World} {b i k : Nat} (h : k ≠ b) (v : Value) : (w.setCell ⟨b, i, none⟩ v).heap[k]? = w.heap[k]? := Below.heap_setCell _ _ _ _ h
theorem size_set {w : World} (p : Addr) (v : Value) : (w.setCell p v).heap.size = w.heap.size := by simp [World.setCell]
theorem Mo.one {S : Nat → Prop} {w w' : World} {g : Nat} (h : w.grownBy w' (some g)) (hg : S g) (hk : kd w' g = kd w g) : Mo S w w' := by
  refine ⟨h.os, h.tape, h.output, h.size, fun k hk2 => ?_, fun k hk2 hT => h.block k hk2 ?_⟩
  · by_cases e : k = g
    · rw [e]; exact hk
    · exact kd_eq (h.block k hk2 (fun x => e (by cases x; rfl)))
  · rintro x
    cases x
    exact hT hg
theorem Mo.set {S : Nat → Prop} {w : World} {g i : Nat} {cs : Array Value} {t : TypeId} {fz : Nat × Nat} (h : w.heap[g]? = some (.cells cs t fz)) (hg : S g) (v : Value) : Mo S w (w.setCell ⟨g, i, none⟩ v) := by
  have e0 : Below 0 w (w.setCell ⟨g, i, none⟩ v) := (Below.refl 0 w).setCell (Nat.zero_le _) v
  refine Mo.one (g := g) ⟨e0.os, e0.tape, e0.output, e0.size, fun k hk hne => set_ne (fun x => hne (by rw [x])) v⟩ hg ?_
  rw [kd_cells h, kd_cells (set_at h v)]
theorem Mo.turned {S : Nat → Prop} {w w' : World} {b : Nat} (h : w.mapTurned w' b) (hb : S b) : Mo S w w' := by
  have hg := h.grown
  obtain ⟨es, c, es', c', h1, rfl⟩ := h
  refine Mo.one hg hb ?_
  rw [kd_map h1]
  exact kd_map (ChangeMaps.heap_setBlock_same h1 _)
theorem cell_blk {w : World} {a : Addr} {v : Value} (h : w.cell? a = some v) : ∃ cs t fz, w.heap[a.block]? = some (.cells cs t fz) := by
  unfold World.cell? at h
  cases e : w.heap[a.block]? with
  | none => rw [e] at h; simp at h
  | some o =>
    cases o with
    | cells cs t fz => exact ⟨cs, t, fz, rfl⟩
    | _ => rw [e] at h; simp at h
theorem Mo.cell {S : Nat → Prop} {w w' : World} (h : Mo S w w') {a : Addr} {v : Value} (hc : w.cell? a = some v) (hs : ¬ S a.block) : w'.cell? a = some v := by
  obtain ⟨cs, t, fz, hb⟩ := cell_blk hc
  unfold World.cell? at hc ⊢
  rw [h.block _ (lt_of hb) hs]
  exact hc
theorem cell_on {w w' : World} (hb : Below w.heap.size w w') {a : Addr} {x : Value} (h : w.cell? a = some x) : w'.cell? a = some x := by
  obtain ⟨cs, t, fz, hk⟩ := cell_blk h
  rw [hb.cell (lt_of hk)]
  exact h

/- the rank's own kinds: the rank, a tree's node, a map -/
def RT (n : Nat) : Bool := n == 52 + 2 || n == 73 + 2 || n == 1
def EvS (B : Nat) (w : World) : Nat → Prop := fun k => B ≤ k ∧ RT (kd w k) = true
def Ev (B : Nat) (w w' : World) : Prop := Mo (EvS B w) w w'
theorem Ev.refl (B : Nat) (w : World) : Ev B w w := Mo.refl _ _
theorem Ev.trans {B : Nat} {a b c : World} (h : Ev B a b) (k : Ev B b c) : Ev B a c := Mo.trans h k (fun i hi e => ⟨e.1, by rw [← h.kind i hi]; exact e.2⟩)
theorem Ev.of_below {B : Nat} {a b : World} (h : Below a.heap.size a b) : Ev B a b := Mo.of_below h
theorem Ev.below {B : Nat} {a b : World} (h : Ev B a b) (hb : B ≤ a.heap.size) : Below B a b := Mo.to_below h hb (fun i e => e.1)

/- entries in slices -/
def eCells (p : Ent) : List Value := [.string (mk p.1), .int .i64 p.2]
def eAt (w : World) (g o : Nat) (l : EL) : Prop := ∀ k (h : k < l.length), w.cell? ⟨g, o + k * 2, none⟩ = some (.string (mk (l[k]'h).1)) ∧ w.cell? ⟨g, o + k * 2 + 1, none⟩ = some (.int .i64 (l[k]'h).2)
def FS (w : World) (v : Value) (l : EL) : Prop := ∃ a c, v = .slice a l.length c ∧ l.length ≤ c ∧ (l = [] ∨ ∃ g o, a = some ⟨g, o, none⟩ ∧ eAt w g o l)
/- where a slice lies: below B, or in a row of entries -/
def Kp (B : Nat) (w : World) (v : Value) : Prop := ∀ (p : Addr) n c, v = .slice (some p) n c → p.block < B ∨ kd w p.block = 35 + 2
theorem FS.keep {w w' : World} {v : Value} {l : EL} (h : FS w v l) (hk : ∀ a x, w.cell? a = some x → w'.cell? a = some x) : FS w' v l := by
  obtain ⟨a, c, rfl, hc, h⟩ := h
  refine ⟨a, c, rfl, hc, h.imp id ?_⟩
  rintro ⟨g, o, e, hc⟩
  exact ⟨g, o, e, fun k hk' => ⟨hk _ _ (hc k hk').1, hk _ _ (hc k hk').2⟩⟩
theorem FS.below {w w' : World} {v : Value} {l : EL} (h : FS w v l) (hb : Below w.heap.size w w') : FS w' v l := h.keep (fun a x hx => cell_on hb hx)
theorem FS.ev {B : Nat} {w w' : World} {v : Value} {l : EL} (h : FS w v l) (hk : Kp B w v) (he : Ev B w w') : FS w' v l := by
  obtain ⟨a, c, rfl, hc, h⟩ := h
  refine ⟨a, c, rfl, hc, h.imp id ?_⟩
  rintro ⟨g, o, rfl, hq⟩
  have hn : ¬ EvS B w g := by
    rintro ⟨h1, h2⟩
    rcases hk ⟨g, o, none⟩ _ c rfl with h3 | h3
    · have h4 : g < B := h3
      omega
    · have h4 : kd w g = 35 + 2 := h3
      rw [h4] at h2; revert h2; decide
  exact ⟨g, o, rfl, fun k hk' => ⟨Mo.cell he (hq k hk').1 hn, Mo.cell he (hq k hk').2 hn⟩⟩
theorem kd_lt {w : World} {k : Nat} {n : Nat} (h : kd w k = n + 2) : k < w.heap.size := by
  unfold kd at h
  cases e : w.heap[k]? with
  | none => rw [e] at h; simp at h
  | some o => exact lt_of e
theorem Kp.below {B : Nat} {w w' : World} {v : Value} (h : Kp B w v) (hb : Below w.heap.size w w') : Kp B w' v := fun p n c e => (h p n c e).imp id fun q => (kd_eq (hb.block p.block (kd_lt q))).trans q
theorem Kp.ev {B : Nat} {w w' : World} {v : Value} (h : Kp B w v) (he : Ev B w w') : Kp B w' v := fun p n c e => (h p n c e).imp id fun q => (he.kind p.block (kd_lt q)).trans q
theorem fflat_len (l : EL) : (l.flatMap eCells).length = l.length * 2 := by
  induction l with
  | nil => rfl
  | cons f r ih => rw [List.flatMap_cons, List.length_append, ih, List.length_cons]; simp [eCells]; omega
theorem fflat_at : ∀ (l : EL) (k : Nat) (h : k < l.length), (l.flatMap eCells)[k * 2]? = some (.string (mk (l[k]'h).1)) ∧ (l.flatMap eCells)[k * 2 + 1]? = some (.int .i64 (l[k]'h).2)
  | f :: r, 0, h => ⟨rfl, rfl⟩
  | f :: r, k + 1, h => by
    have ih := fflat_at r k (by simpa using h)
    have e : ∀ i, ((f :: r).flatMap eCells)[(k + 1) * 2 + i]? = (r.flatMap eCells)[k * 2 + i]? := fun i => by
      rw [List.flatMap_cons, List.getElem?_append_right (by simp [eCells]; omega)]
      congr 1
      simp [eCells]
      omega
    exact ⟨(e 0).trans ih.1, (e 1).trans ih.2⟩
/- a row of one's own, from block B on -/
abbrev OR (B : Nat) (w : World) (v : Value) (l : EL) : Prop := w.ownsRow B 35 2 v l.length (l.flatMap eCells)
theorem fs_row {B : Nat} {w : World} {l : EL} {v : Value} (h : OR B w v l) : FS w v l := by
  rcases h.2 with ⟨rfl, h0⟩ | ⟨g, cap, cur, rfl, hb, hg, q1, q2, q3, q4⟩
  · have : l = [] := List.length_eq_zero_iff.1 h0
    subst this
    exact ⟨none, 0, rfl, Nat.le_refl _, Or.inl rfl⟩
  · refine ⟨_, cap, rfl, q1, Or.inr ⟨g, 0, rfl, fun k hk => ?_⟩⟩
    obtain ⟨d0, d1⟩ := fflat_at l k hk
    have c0 := h.cellAt (k * 2) (by omega)
    have c1 := h.cellAt (k * 2 + 1) (by omega)
    rw [Nat.zero_add]
    exact ⟨c0.trans d0, c1.trans d1⟩
theorem kp_row {B C : Nat} {w : World} {l : EL} {v : Value} (h : OR B w v l) : Kp C w v := by
  intro p n c e
  rcases h.2 with ⟨rfl, h0⟩ | ⟨g', cap, cur, rfl, hb, hg, q⟩
  · cases e
  · injection e with e1 e2 e3
    injection e1 with e1
    subst e1
    exact Or.inr (kd_cells hg)
theorem row_later {w w' : World} {base e sz n : Nat} {v : Value} {xs : List Value} (h : w.ownsRow base e sz v n xs) (hk : ∀ g cs t fz, v.ownBlock = some g → w.heap[g]? = some (.cells cs t fz) → t = e → w'.heap[g]? = w.heap[g]?) : w'.ownsRow base e sz v n xs := by
  refine ⟨h.1, ?_⟩
  rcases h.2 with hn | ⟨g, cap, cur, rfl, hb, hg, rest⟩
  · exact Or.inl hn
  · exact Or.inr ⟨g, cap, cur, rfl, hb, (hk g _ _ _ rfl hg rfl).trans hg, rest⟩
theorem row_below {w w' : World} {base e sz n : Nat} {v : Value} {xs : List Value} (h : w.ownsRow base e sz v n xs) (hb : Below w.heap.size w w') : w'.ownsRow base e sz v n xs := row_later h (fun g cs t fz _ hg _ => hb.block g (lt_of hg))
theorem row_ev {B C : Nat} {w w' : World} {v : Value} {l : EL} (h : OR C w v l) (he : Ev B w w') : OR C w' v l := row_later h (fun g cs t fz _ hg ht => he.block g (lt_of hg) (by rintro ⟨_, h2⟩; rw [kd_cells hg, ht] at h2; revert h2; decide))
theorem row_mono {w : World} {B B' e sz n : Nat} {v : Value} {xs : List Value} (h : w.ownsRow B e sz v n xs) (hB : B' ≤ B) : w.ownsRow B' e sz v n xs := by
  refine ⟨h.1, h.2.imp id ?_⟩
  rintro ⟨g, cap, cur, rfl, hb, rest⟩
  exact ⟨g, cap, cur, rfl, Nat.le_trans hB hb, rest⟩
theorem or_nil (B : Nat) (w : World) : OR B w (.slice none 0 0) [] := World.ownsRow_nil _ _ _ _
/- cut -/
def ca (a : Option Addr) (c i : Nat) : Option Addr := if c = i then a else a.map (·.add (i * 2))
theorem cut_lo (a : Option Addr) (n c i : Nat) (hi : i ≤ n) (w : World) : (Instr.slice 22 (.slice a n c) (some (.int .i64 (i : Int))) none none).run Tryz.prog w = .ok (.slice (ca a c i) (n - i) (c - i)) w := by
  have h1 : (i : Int) ≤ n := by omega
  simp [Instr.slice, run_underlying Tryz.underlying22, Instr.sliceBounds, run_sliceBound, ca, h1]
theorem cut_hi (a : Option Addr) (n c j : Nat) (hj : j ≤ c) (w : World) : (Instr.slice 22 (.slice a n c) none (some (.int .i64 (j : Int))) none).run Tryz.prog w = .ok (.slice a j c) w := by
  have h2 : (j : Int) ≤ c := by omega
  have h0 : (if c = 0 then a else a.map (·.add 0)) = a := by
    by_cases h : c = 0
    · rw [if_pos h]
    · rw [if_neg h]
      cases a with
      | none => rfl
      | some a => simp [Addr.add]
  simp [Instr.slice, run_underlying Tryz.underlying22, Instr.sliceBounds, run_sliceBound, h2, h0]
theorem cut_any (a : Option Addr) (n c i j : Nat) (hij : i ≤ j) (hj : j ≤ c) (w : World) : (Instr.slice 22 (.slice a n c) (some (.int .i64 (i : Int))) (some (.int .i64 (j : Int))) none).run Tryz.prog w = .ok (.slice (ca a c i) (j - i) (c - i)) w := by
  have h1 : (i : Int) ≤ j := by omega
  have h2 : (j : Int) ≤ c := by omega
  simp [Instr.slice, run_underlying Tryz.underlying22, Instr.sliceBounds, run_sliceBound, ca, h1, h2]
theorem FS.cap {w : World} {a : Option Addr} {n c : Nat} {l : EL} (h : FS w (.slice a n c) l) : n = l.length ∧ l.length ≤ c := by
  obtain ⟨a', c', e, hc, h⟩ := h
  injection e with e1 e2 e3
  subst e3
  exact ⟨e2, hc⟩
theorem FS.at {w : World} {a : Option Addr} {n c : Nat} {l : EL} (h : FS w (.slice a n c) l) {k : Nat} (hk : k < l.length) : ∃ g o, a = some ⟨g, o, none⟩ ∧ eAt w g o l := by
  obtain ⟨a', c', e, hc, h⟩ := h
  injection e with e1 e2 e3
  subst e1
  rcases h with rfl | h
  · simp at hk
  · exact h
theorem FS.take {w : World} {a : Option Addr} {c : Nat} {l : EL} (h : FS w (.slice a l.length c) l) (j : Nat) (hj : j ≤ l.length) : FS w (.slice a j c) (l.take j) := by
  obtain ⟨a', c', e, hc, hfs⟩ := h
  injection e with e1 _ e3
  subst e1 e3
  have hl : (l.take j).length = j := by rw [List.length_take]; omega
  refine ⟨a, c, by rw [hl], by omega, ?_⟩
  rcases hfs with rfl | ⟨g, o, rfl, hq⟩
  · exact Or.inl (by simp)
  · refine Or.inr ⟨g, o, rfl, fun k hk => ?_⟩
    rw [List.getElem_take]
    exact hq k (by omega)
theorem FS.drop {w : World} {a : Option Addr} {c : Nat} {l : EL} (h : FS w (.slice a l.length c) l) (i : Nat) (hi : i ≤ l.length) : FS w (.slice (ca a c i) (l.length - i) (c - i)) (l.drop i) := by
  obtain ⟨a', c', e, hc, hfs⟩ := h
  injection e with e1 _ e3
  subst e1 e3
  have hl : (l.drop i).length = l.length - i := List.length_drop
  refine ⟨ca a c i, c - i, by rw [hl], by omega, ?_⟩
  by_cases hd : l.drop i = []
  · exact Or.inl hd
  · have hp : 0 < (l.drop i).length := List.length_pos_iff.2 hd
    rw [hl] at hp
    rcases hfs with rfl | ⟨g, o, rfl, hq⟩
    · simp at hp
    · refine Or.inr ⟨g, o + i * 2, ?_, fun k hk => ?_⟩
      · unfold ca
        rw [if_neg (by omega)]
        show some ((⟨g, o, none⟩ : Addr).add (i * 2)) = _
        rw [Addr.add_lit]
      · rw [List.getElem_drop]
        have := hq (i + k) (by omega)
        rw [show o + (i + k) * 2 = o + i * 2 + k * 2 from by omega] at this
        exact this
theorem kp_take {B : Nat} {w : World} {a : Option Addr} {n c : Nat} (h : Kp B w (.slice a n c)) (j c' : Nat) : Kp B w (.slice a j c') := fun p n' c2 e => by
  injection e with e1 e2 e3
  subst e1
  exact h p n c rfl
theorem add_block (p : Addr) (k : Nat) : (p.add k).block = p.block := by
  unfold Addr.add
  split <;> rfl
theorem kp_drop {B : Nat} {w : World} {a : Option Addr} {n c : Nat} (h : Kp B w (.slice a n c)) (i j c' : Nat) : Kp B w (.slice (ca a c i) j c') := fun p n' c2 e => by
  injection e with e1 e2 e3
  unfold ca at e1
  by_cases hc : c = i
  · rw [if_pos hc] at e1; subst e1; exact h p n c rfl
  · rw [if_neg hc] at e1
    cases a with
    | none => cases e1
    | some a =>
      injection e1 with e1
      subst e1
      have := h a n c rfl
      show (a.add (i * 2)).block < B ∨ kd w (a.add (i * 2)).block = _
      rw [add_block]
      exact this
/- append -/
theorem parts_of {t : TypeId} {z : Value} {n m : Nat} (h : (Tryz.prog.info? t).map (fun i => (i.zero, i.size, i.bytes)) = some (some z, n, m)) : ∃ i, Tryz.prog.info? t = some i ∧ i.zero = some z ∧ i.size = n ∧ i.bytes = m := by
  cases e : Tryz.prog.info? t with
  | none => rw [e] at h; cases h
  | some i =>
    rw [e] at h
    simp at h
    exact ⟨i, rfl, h.1, h.2.1, h.2.2⟩
theorem info_sc : (Tryz.prog.info? 35).map (fun i => (i.zero, i.size, i.bytes)) = some (some (.agg #[.string ⟨#[]⟩, .int .i64 0]), 2, 24) := by kernel_rfl
theorem one_all (xs : EL) : ∀ u ∈ xs.flatMap eCells, u.oneCell' = true := by
  intro u hu
  obtain ⟨p, hp, h⟩ := List.mem_flatMap.1 hu
  simp only [eCells, List.mem_cons, List.not_mem_nil, or_false] at h
  rcases h with rfl | rfl <;> rfl
theorem fs_news {w : World} {g o : Nat} {l : EL} (h : eAt w g o l) : ∀ j u, (l.flatMap eCells)[j]? = some u → w.cell? ((⟨g, o, none⟩ : Addr).add j) = some u := fun j u hj => by
  have hlt : j < (l.flatMap eCells).length := (List.getElem?_eq_some_iff.1 hj).1
  rw [fflat_len] at hlt
  have hk : j / 2 < l.length := by omega
  obtain ⟨d0, d1⟩ := fflat_at l (j / 2) hk
  obtain ⟨c0, c1⟩ := h (j / 2) hk
  rw [Addr.add_lit]
  rcases Nat.mod_two_eq_zero_or_one j with e | e
  · have e2 : j = j / 2 * 2 := by omega
    rw [e2, d0] at hj
    rw [e2, c0]
    exact hj
  · have e2 : j = j / 2 * 2 + 1 := by omega
    rw [e2, d1] at hj
    rw [e2, show o + (j / 2 * 2 + 1) = o + j / 2 * 2 + 1 from by omega, c1]
    exact hj
theorem app_nil (a : Option Addr) (c : Nat) (w : World) : (Builtin.append_ #[22, 22] 22 #[.slice none 0 0, .slice a 0 c]).run Tryz.prog w = .ok (.slice none 0 0) w := by
  cases a with
  | none => kernel_rfl
  | some a => kernel_rfl
theorem append_fs (B : Nat) (w : World) (v u : Value) (xs ys : EL) (h : OR B w v xs) (hu : FS w u ys) (hb : B ≤ w.heap.size) (hn : xs.length + ys.length ≤ big) :
    ∃ v' w', (Builtin.append_ #[22, 22] 22 #[v, u]).run Tryz.prog w = .ok v' w' ∧ OR B w' v' (xs ++ ys) ∧ w.grownBy w' v.ownBlock := by
  obtain ⟨i, hi, hz0, hz1, hz2⟩ := parts_of info_sc
  obtain ⟨a, c, rfl, hc, hq⟩ := hu
  by_cases he : ys = []
  · subst he
    rw [List.append_nil]
    rcases h.2 with ⟨rfl, h0⟩ | ⟨g, cap, cur, rfl, hbg, hg, q1, q2, q3, q4⟩
    · exact ⟨_, w, app_nil a c w, h, ⟨rfl, rfl, rfl, Nat.le_refl _, fun _ _ _ => rfl⟩⟩
    · have hsrc : Src Tryz.prog i.size 22 (.slice a 0 c) 0 [] w := by
        cases a with
        | none => exact Src.ofNil w Tryz.underlying22 c
        | some a => exact Src.ofSlice w Tryz.underlying22 a 0 c [] (by simp) (fun j u hj => by simp at hj) (fun u hu => by cases hu)
      have hr := run_append_room_src (P := Tryz.prog) w 22 22 22 35 i Tryz.underlying22 hi g 0 xs.length cap (.slice a 0 c) 0 [] hsrc (by omega) (fun j hj => by simp at hj) (fun j hj => by simp at hj)
      refine ⟨.slice (some ⟨g, 0, none⟩) xs.length cap, w, ?_, h, ⟨rfl, rfl, rfl, Nat.le_refl _, fun _ _ _ => rfl⟩⟩
      rw [show ([] : EL).length = 0 from rfl, hr]
      simp [World.setCells]
  · rcases hq with hq | ⟨g, o, rfl, hq⟩
    · exact absurd hq he
    · obtain ⟨v', w', hr, ho, hg, _⟩ := run_append_own_wide (P := Tryz.prog) w B 22 22 35 i _ 2 24 Tryz.underlying22 hi hz0 hz1 hz2 rfl (by decide) v xs.length (xs.flatMap eCells) h ⟨g, o, none⟩ ys.length c (ys.flatMap eCells) (fflat_len ys) (fs_news hq) (one_all ys) (by unfold maxLen; unfold big at hn; omega) (by unfold big at hn; omega) hb
      refine ⟨v', w', hr, ?_, hg⟩
      show w'.ownsRow B _ 2 v' (xs ++ ys).length ((xs ++ ys).flatMap eCells)
      rw [List.length_append, List.flatMap_append]
      exact ho
/- a row of one's own beside all that was there at w1 -/
structure Bd (w1 : World) (v : Value) (xs : EL) (w : World) : Prop where
  row : OR w1.heap.size w v xs
  bel : Below w1.heap.size w1 w
theorem bd_start (w : World) : Bd w (.slice none 0 0) [] w := ⟨or_nil _ _, Below.refl _ _⟩
theorem Bd.below {w1 W W' : World} {xs : EL} {v : Value} (h : Bd w1 v xs W) (hb : Below W.heap.size W W') : Bd w1 v xs W' := ⟨row_below h.row hb, Base.bel h.bel hb (Nat.le_refl _)⟩
theorem bd_app {w1 W : World} {xs : EL} {v : Value} (h : Bd w1 v xs W) (u : Value) (ys : EL) (hu : FS W u ys) (hn : xs.length + ys.length ≤ big) :
    ∃ v' W', (Builtin.append_ #[22, 22] 22 #[v, u]).run Tryz.prog W = .ok v' W' ∧ Bd w1 v' (xs ++ ys) W' := by
  obtain ⟨v', W', hr, ho, hg⟩ := append_fs w1.heap.size W v u xs ys h.row hu h.bel.size hn
  exact ⟨v', W', hr, ho, h.bel.grown hg h.bel.size (fun k hk => (h.row.lt k hk).1)⟩
section
variable {ops : Array Oper} {rest : List Oper} {o : Oper} {a : Act} {Q : Exit → Act → World → Prop}
theorem wpl_eq (hgd : o.guard = none) (s x : Operand) (t tx : TypeId) (ho : o.op = .call { callee := .builtin .append, args := #[s, x], argTypes := #[t, tx] }) (v u v' : Value) (W W' : World) (hs : a.eval s = v) (hx : a.eval x = u)
    (hr : (Builtin.append_ #[t, tx] o.type #[v, u]).run Tryz.prog W = .ok v' W') (hK : wpList Tryz.prog ops Q rest (a.put o.dst v') W') : wpList Tryz.prog ops Q (o :: rest) a W := by
  refine wpList_plain hgd fun K hK2 => ?_
  unfold Oper.wp execOp
  simp only [ho, resolve, invoke, builtin, Sem.run_bind, Sem.run_pure, Result.andThen_ok, List.map_toArray, List.map_cons, List.map_nil, hs, hx, hr]
  exact hK2 _ _ hK
end
theorem fs_one (w : World) (e : Ent) : FS (w.alloc (.cells #[.string (mk e.1), .int .i64 e.2] 35)) (.slice (some ⟨w.heap.size, 0, none⟩) 1 1) [e] := by
  refine ⟨_, 1, rfl, Nat.le_refl _, Or.inr ⟨w.heap.size, 0, rfl, fun k hk => ?_⟩⟩
  have h := heap_alloc_new w (.cells #[.string (mk e.1), .int .i64 e.2] 35)
  match k, hk with
  | 0, _ => exact ⟨by rw [Lib.cell_of_heap h]; rfl, by rw [Lib.cell_of_heap h]; rfl⟩

/- the tree -/
inductive T where
  | nil : T
  | node (b : Nat) (l : T) (e : Ent) (r : T) : T
def T.list : T → EL
  | .nil => []
  | .node b l e r => l.list ++ e :: r.list
def T.blks : T → List Nat
  | .nil => []
  | .node b l e r => b :: (l.blks ++ r.blks)
def T.addr : T → Option Addr
  | .nil => none
  | .node b l e r => some ⟨b, 0, none⟩
def T.ptr (t : T) : Value := .pointer t.addr
def nodeCells (e : Ent) (n : Int) (l r : Value) : Array Value := #[.string (mk e.1), .int .i64 e.2, .int .i64 n, l, r]
def Tr (w : World) : T → Prop
  | .nil => True
  | .node b l e r => w.heap[b]? = some (.cells (nodeCells e ((l.list.length + 1 + r.list.length : Nat) : Int) l.ptr r.ptr) 73 (0, 0)) ∧ Tr w l ∧ Tr w r
theorem Tr.keep {w w' : World} : ∀ {t : T}, Tr w t → (∀ b ∈ t.blks, w'.heap[b]? = w.heap[b]?) → Tr w' t
  | .nil, _, _ => trivial
  | .node b l e r, ⟨h1, h2, h3⟩, hk => ⟨(hk b List.mem_cons_self).trans h1, Tr.keep h2 (fun k hm => hk k (List.mem_cons_of_mem _ (List.mem_append.2 (Or.inl hm)))), Tr.keep h3 (fun k hm => hk k (List.mem_cons_of_mem _ (List.mem_append.2 (Or.inr hm))))⟩
theorem Tr.lt {w : World} : ∀ {t : T}, Tr w t → ∀ b ∈ t.blks, b < w.heap.size ∧ kd w b = 73 + 2
  | .nil, _, b, hb => by cases hb
  | .node k l e r, ⟨h1, h2, h3⟩, b, hb => by
    rcases List.mem_cons.1 hb with rfl | hb
    · exact ⟨lt_of h1, kd_cells h1⟩
    · rcases List.mem_append.1 hb with hb | hb
      · exact Tr.lt h2 b hb
      · exact Tr.lt h3 b hb
theorem Tr.below {w w' : World} {t : T} (h : Tr w t) (hb : Below w.heap.size w w') : Tr w' t := h.keep (fun b hm => hb.block b (h.lt b hm).1)
theorem Tr.mo {S : Nat → Prop} {w w' : World} {t : T} (h : Tr w t) (hm : Mo S w w') (hs : ∀ b ∈ t.blks, ¬ S b) : Tr w' t := h.keep (fun b hb => hm.block b (h.lt b hb).1 (hs b hb))

/- the map -/
def RI : Value → Option (DataW Unit × List MemPlace)
  | .int .i64 n => some (.lit (.int .i64 n), [])
  | _ => none
theorem RI_at (n : Int) : RI (.int .i64 n) = some (.lit (.int .i64 n), []) := rfl
theorem RI_inv {v : Value} {y : DataW Unit × List MemPlace} (h : RI v = some y) : ∃ n : Int, v = .int .i64 n ∧ y.1 = .lit (.int .i64 n) := by
  unfold RI at h
  split at h
  · cases h; exact ⟨_, rfl, rfl⟩
  · cases h
abbrev OM (w : World) (m : Nat) (l : EL) : Prop := w.ownsMap Tryz.prog 9 RI m l.length (toD l)
theorem owns_norm {w : World} {b n : Nat} {l : EL} (h : w.ownsMap Tryz.prog 9 RI b n (toD l)) : OM w b l := by
  obtain ⟨es, c, hb, F, hs, hD⟩ := h
  refine ⟨es, c, hb, F, ?_, hD⟩
  have e : Maps.size (toD l) = es.size := by rw [hD]; simp [Maps.size, length_sorted]
  rw [size_D] at e
  omega
theorem owns_later {w w' : World} {b n : Nat} {D : DataW Unit} (h : w.ownsMap Tryz.prog 9 RI b n D) (hk : w'.heap[b]? = w.heap[b]?) : w'.ownsMap Tryz.prog 9 RI b n D := by
  obtain ⟨es, c, hb, rest⟩ := h
  exact ⟨es, c, hk.trans hb, rest⟩
theorem owns_map {w : World} {b n : Nat} {D : DataW Unit} (h : w.ownsMap Tryz.prog 9 RI b n D) : ∃ es c, w.heap[b]? = some (.map es c) := by
  obtain ⟨es, c, hb, _⟩ := h
  exact ⟨es, c, hb⟩
theorem lawS : Keyed Tryz.prog 9 := string_keyed Tryz.underlying9
theorem zeroI (w : World) : (zeroValue 3).run Tryz.prog w = .ok (.int .i64 0) w := by kernel_rfl
set_option maxRecDepth 100000 in
theorem keyS (s : ByteArray) (hs : s.size ≤ 140737488355328) : keyOf Tryz.prog 9 (.string s) = some (.string (bs s)) := WideMaps.keyOf_string_mk Tryz.underlying9 (by unfold maxLen; omega)
def valI (l : EL) (k : Bs) : Int := (lkp l k).getD 0
set_option maxRecDepth 100000 in
theorem look_run {w : World} {b n : Nat} {l : EL} (h : w.ownsMap Tryz.prog 9 RI b n (toD l)) (s : ByteArray) (hs : s.size ≤ 140737488355328) :
    (Instr.lookup 45 (.map (some b)) (.string s) true).run Tryz.prog w = .ok (.tuple #[.int .i64 (valI l (bs s)), .bool (ok l (bs s))]) w := by
  obtain ⟨v, ps, hrun, hv⟩ := h.look_ok lawS Tryz.underlying45 (zeroI w) (zd := .lit (.int .i64 0)) (zp := []) rfl (keyS s hs)
  rw [hrun, has_D]
  rw [at_D] at hv
  obtain ⟨s', rfl, e⟩ := RI_inv hv
  have e2 : (lkp l (bs s)).getD 0 = s' := by injection e with e; injection e
  unfold valI
  rw [e2]
set_option maxRecDepth 100000 in
theorem store_run {w : World} {m : Nat} {l : EL} (h : OM w m l) (hn : l.length < 140737488355328) (s : ByteArray) (t : Int) (hs : s.size ≤ 140737488355328) :
    ∃ w', (Instr.mapUpdate 45 (.map (some m)) (.string s) (.int .i64 t)).run Tryz.prog w = .ok () w' ∧ OM w' m (withL l (bs s) t) ∧ w.mapTurned w' m := by
  obtain ⟨w', hrun, ho, ht⟩ := World.ownsMap.store h lawS Tryz.underlying45 (by unfold maxLen; omega) (keyS s hs) (RI_at t)
  rw [put_D] at ho
  exact ⟨w', hrun, owns_norm ho, ht⟩
set_option maxRecDepth 100000 in
theorem drop_run {w : World} {m : Nat} {l : EL} (h : OM w m l) (s : ByteArray) (hs : s.size ≤ 140737488355328) (ty : TypeId) :
    ∃ w', (Builtin.delete_ #[45, 9] ty #[.map (some m), .string s]).run Tryz.prog w = .ok (.tuple #[]) w' ∧ OM w' m (wout l (bs s)) ∧ w.mapTurned w' m := by
  obtain ⟨w', hrun, ho, ht⟩ := World.ownsMap.drop h lawS Tryz.underlying45 (keyS s hs) ty
  rw [del_D] at ho
  exact ⟨w', hrun, owns_norm ho, ht⟩

/- the rank -/
def ptr (f : Nat) : Value := .pointer (some ⟨f, 0, none⟩)
structure RX (B b m : Nat) (t : T) (ml l : EL) (w : World) : Prop where
  blk : w.heap[b]? = some (.cells #[.map (some m), t.ptr] 52 (0, 0))
  map : OM w m ml
  ris : Ris ml
  perm : ml.Perm l
  tr : Tr w t
  list : t.list = l
  nd : t.blks.Nodup
  srt : Srt l
  uq : Uq l
  len : ∀ p ∈ l, p.1.length ≤ 140737488355328
  may : AllMay l
  bb : B ≤ b
  mb : B ≤ m
  tb : ∀ k ∈ t.blks, B ≤ k
def RK (B b : Nat) (l : EL) (w : World) : Prop := ∃ m t ml, RX B b m t ml l w
theorem RX.below {B b m : Nat} {t : T} {ml l : EL} {w w' : World} (h : RX B b m t ml l w) (hb : Below w.heap.size w w') : RX B b m t ml l w' :=
  { h with blk := (hb.block b (lt_of h.blk)).trans h.blk, map := owns_later h.map (hb.block m h.map.lt), tr := h.tr.below hb }
theorem RK.below {B b : Nat} {l : EL} {w w' : World} (h : RK B b l w) (hb : Below w.heap.size w w') : RK B b l w' := by
  obtain ⟨m, t, ml, h⟩ := h
  exact ⟨m, t, ml, h.below hb⟩
theorem RX.bm {B b m : Nat} {t : T} {ml l : EL} {w : World} (h : RX B b m t ml l w) : b ≠ m := fun e => by
  obtain ⟨es, c, hm⟩ := owns_map h.map
  have := h.blk
  rw [e, hm] at this
  cases this
theorem RX.bt {B b m : Nat} {t : T} {ml l : EL} {w : World} (h : RX B b m t ml l w) : b ∉ t.blks := fun e => by
  have := (h.tr.lt b e).2
  rw [kd_cells h.blk] at this
  revert this; decide
theorem RX.mt {B b m : Nat} {t : T} {ml l : EL} {w : World} (h : RX B b m t ml l w) : m ∉ t.blks := fun e => by
  obtain ⟨es, c, hm⟩ := owns_map h.map
  have := (h.tr.lt m e).2
  rw [kd_map hm] at this
  revert this; decide
theorem RX.c0 {B b m : Nat} {t : T} {ml l : EL} {w : World} (h : RX B b m t ml l w) : w.cell? ⟨b, 0, none⟩ = some (.map (some m)) := Lib.cell_of_heap h.blk 0
theorem RX.c1 {B b m : Nat} {t : T} {ml l : EL} {w : World} (h : RX B b m t ml l w) : w.cell? ⟨b, 1, none⟩ = some t.ptr := Lib.cell_of_heap h.blk 1
theorem RX.f0 {B b m : Nat} {t : T} {ml l : EL} {w : World} (h : RX B b m t ml l w) : w.frozen? ⟨b, 0, none⟩ = false := Lib.frozen_of_heap h.blk 0
theorem RX.f1 {B b m : Nat} {t : T} {ml l : EL} {w : World} (h : RX B b m t ml l w) : w.frozen? ⟨b, 1, none⟩ = false := Lib.frozen_of_heap h.blk 1
theorem RX.uqm {B b m : Nat} {t : T} {ml l : EL} {w : World} (h : RX B b m t ml l w) : Uq ml := ris_uq h.ris
theorem RX.lkp {B b m : Nat} {t : T} {ml l : EL} {w : World} (h : RX B b m t ml l w) (k : Bs) : lkp ml k = MapMath.lkp l k := lkp_perm h.perm h.uqm k
theorem RX.ok {B b m : Nat} {t : T} {ml l : EL} {w : World} (h : RX B b m t ml l w) (k : Bs) : ok ml k = MapMath.ok l k := by unfold MapMath.ok; rw [h.lkp]
theorem RX.val {B b m : Nat} {t : T} {ml l : EL} {w : World} (h : RX B b m t ml l w) (k : Bs) : valI ml k = valI l k := by unfold valI; rw [h.lkp]
end Go.Proofs.YtighoelipihifabGreatDoor.Base
