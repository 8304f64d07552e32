/- The disk in memory: its own block, two maps, the files, the open changes, the plan; what a call may touch. -/
import Derived.Test.YtilbffbmpgebmaaShelf
import Derived.Test.YtilbffbmpgebmaaDiskMath
import Derived.WalkKit
import Derived.WalkSmall
import Derived.WalkLawsBesides
import Derived.WalkSpells
import Derived.BigQuiet
import Derived.Below
import Derived.Lib.AppendStr
import Derived.Deep.LoopGhost
import Derived.Deep.RegionWith
import Derived.Deep.AppendSrc
import Derived.Maps.RangeWalk
import Derived.Sort.OwnSorted
namespace Go.Proofs.Ytilbffbmpgebmaa.Base
open Go.RowKit Go.Maps
open Go.Proofs.Ytilbffbmpgebmaa.DiskMath
set_option linter.unusedVariables false

def bs (s : ByteArray) : List UInt8 := s.data.toList
theorem len_bs (s : ByteArray) : (bs s).length = s.size := by unfold bs; simp
def mk (l : List UInt8) : ByteArray := ⟨l.toArray⟩
theorem bs_mk (l : List UInt8) : bs (mk l) = l := rfl
theorem mk_bs (s : ByteArray) : mk (bs s) = s := by cases s; simp [mk, bs]
theorem mk_size (l : List UInt8) : (mk l).size = l.length := by rw [← len_bs, bs_mk]
theorem of_bs {a b : ByteArray} (h : bs a = bs b) : a = b := by rw [← mk_bs a, ← mk_bs b, h]
theorem hid_of {p : Prop} (h : p) : Hid p := h
theorem lt_of {w : World} {b : Nat} {o : Obj} (h : w.heap[b]? = some o) : b < w.heap.size := (Array.getElem?_eq_some_iff.1 h).1

/- what kind of block -/
def kd (w : World) (k : Nat) : Nat := match w.heap[k]? with
  | some (.cells _ t _) => t + 2
  | some (.map _ _) => 1
  | _ => 0
theorem kd_cells {w : World} {k : Nat} {cs : Array Value} {t : TypeId} {fz : Nat × Nat} (h : w.heap[k]? = some (.cells cs t fz)) : kd w k = t + 2 := by unfold kd; rw [h]
theorem kd_map {w : World} {k : Nat} {es : Array MapEntry} {c : Nat} (h : w.heap[k]? = some (.map es c)) : kd w k = 1 := by unfold kd; rw [h]
theorem kd_eq {w w' : World} {k : Nat} (h : w'.heap[k]? = w.heap[k]?) : kd w' k = kd w k := by unfold kd; rw [h]
/- blocks of the kinds T from base on may turn, keeping their kind -/
structure Ev (T : Nat → Bool) (base : Nat) (w w' : World) : Prop where
  os : w'.os = w.os
  tape : w'.tape = w.tape
  output : w'.output = w.output
  size : w.heap.size ≤ w'.heap.size
  kind : ∀ k, k < w.heap.size → kd w' k = kd w k
  block : ∀ k, k < w.heap.size → (k < base ∨ T (kd w k) = false) → w'.heap[k]? = w.heap[k]?
theorem Ev.refl (T : Nat → Bool) (base : Nat) (w : World) : Ev T base w w := ⟨rfl, rfl, rfl, Nat.le_refl _, fun _ _ => rfl, fun _ _ _ => rfl⟩
theorem Ev.trans {T : Nat → Bool} {base : Nat} {a b c : World} (h : Ev T base a b) (k : Ev T base b c) : Ev T base a c :=
  ⟨k.os.trans h.os, k.tape.trans h.tape, k.output.trans h.output, Nat.le_trans h.size k.size, fun i hi => (k.kind i (Nat.lt_of_lt_of_le hi h.size)).trans (h.kind i hi),
    fun i hi ht => (k.block i (Nat.lt_of_lt_of_le hi h.size) (ht.imp id fun e => by rw [h.kind i hi]; exact e)).trans (h.block i hi ht)⟩
theorem Ev.of_below {T : Nat → Bool} {base : Nat} {a b : World} (h : Below a.heap.size a b) : Ev T base a b := ⟨h.os, h.tape, h.output, h.size, fun k hk => kd_eq (h.block k hk), fun k hk _ => h.block k hk⟩
theorem Ev.below {T : Nat → Bool} {base : Nat} {a b : World} (h : Ev T base a b) (hb : base ≤ a.heap.size) : Below base a b := ⟨h.os, h.tape, h.output, h.size, fun k hk => h.block k (by omega) (Or.inl hk)⟩
theorem Ev.alloc {T : Nat → Bool} {base : Nat} {a b : World} (h : Ev T base a b) (o : Obj) : Ev T base a (b.alloc o) := h.trans (Ev.of_below ((Below.refl _ b).alloc (Nat.le_refl _) o))
theorem Ev.drew {T : Nat → Bool} {base : Nat} {a b : World} (h : Ev T base a b) : Ev T base a b.drew := ⟨h.os, h.tape, h.output, h.size, h.kind, h.block⟩
theorem Ev.drewN {T : Nat → Bool} {base : Nat} {a b : World} (h : Ev T base a b) (n : Nat) : Ev T base a (b.drewN n) := ⟨h.os, h.tape, h.output, h.size, h.kind, h.block⟩
theorem set_at {w : World} {b i : Nat} {cs : Array Value} {ty : TypeId} {fz : Nat × Nat} (h : w.heap[b]? = some (.cells cs ty fz)) (v : Value) : (w.setCell ⟨b, i, none⟩ v).heap[b]? = some (.cells (cs.setIfInBounds i v) ty fz) := by
  have e2 : (w.setCell ⟨b, i, none⟩ v).heap[b]? = (w.heap[b]?).map (fun | .cells c elem frozen => .cells (if (none : Option Nat).isSome then c else c.setIfInBounds i v) elem frozen | o => o) := by
    show (w.heap.modify b _)[b]? = _
    rw [Array.getElem?_modify, if_pos rfl]
    rfl
  rw [e2, h]; rfl
theorem set_ne {w : World} {b i k : Nat} (h : k ≠ b) (v : Value) : (w.setCell ⟨b, i, none⟩ v).heap[k]? = w.heap[k]? := Below.heap_setCell _ _ _ _ h
theorem size_set {w : World} (p : Addr) (v : Value) : (w.setCell p v).heap.size = w.heap.size := by simp [World.setCell]
/- a world in which one block of a kind of T has turned -/
theorem Ev.one {T : Nat → Bool} {base : Nat} {w w' : World} {g : Nat} (h : w.grownBy w' (some g)) (hg : g < w.heap.size) (hb : base ≤ g) (ht : T (kd w g) = true) (hk : kd w' g = kd w g) : Ev T base w w' := by
  refine ⟨h.os, h.tape, h.output, h.size, fun k hk2 => ?_, fun k hk2 hT => h.block k hk2 ?_⟩
  · by_cases e : k = g
    · rw [e]; exact hk
    · exact kd_eq (h.block k hk2 (fun x => e (by cases x; rfl)))
  · rintro x
    cases x
    rcases hT with h1 | h1
    · omega
    · rw [ht] at h1; cases h1
theorem Ev.set {T : Nat → Bool} {base : Nat} {w : World} {g i : Nat} {cs : Array Value} {t : TypeId} {fz : Nat × Nat} (h : w.heap[g]? = some (.cells cs t fz)) (hb : base ≤ g) (ht : T (t + 2) = true) (v : Value) : Ev T base w (w.setCell ⟨g, i, none⟩ v) := by
  have e0 : Below 0 w (w.setCell ⟨g, i, none⟩ v) := (Below.refl 0 w).setCell (Nat.zero_le _) v
  refine Ev.one (g := g) ⟨e0.os, e0.tape, e0.output, e0.size, fun k hk hne => set_ne (fun x => hne (by rw [x])) v⟩ (lt_of h) hb (by rw [kd_cells h]; exact ht) ?_
  rw [kd_cells h, kd_cells (set_at h v)]
theorem Ev.turned {T : Nat → Bool} {base : Nat} {w w' : World} {b : Nat} (h : w.mapTurned w' b) (hb : base ≤ b) (ht : T 1 = true) : Ev T base w w' := by
  have hg := h.grown
  obtain ⟨es, c, es', c', h1, rfl⟩ := h
  refine Ev.one hg (lt_of h1) hb (by rw [kd_map h1]; exact ht) ?_
  rw [kd_map h1]
  exact kd_map (ChangeMaps.heap_setBlock_same h1 _)
theorem Ev.none {T : Nat → Bool} {base : Nat} {w w' : World} (h : w.grownBy w' Option.none) : Ev T base w w' := ⟨h.os, h.tape, h.output, h.size, fun k hk => kd_eq (h.block k hk (by simp)), fun k hk _ => h.block k hk (by simp)⟩

/- the disk's own kinds: the disk, a file, bytes, changes, a map -/
def DT (n : Nat) : Bool := n == 71 || n == 88 || n == 7 || n == 100 || n == 1
def RP : Value → Option (DataW Unit × List MemPlace)
  | .pointer (some ⟨f, 0, none⟩) => some (.lit (.int .i64 f), [])
  | .pointer none => some (.nil, [])
  | _ => none
theorem RP_at (f : Nat) : RP (.pointer (some ⟨f, 0, none⟩)) = some (.lit (.int .i64 f), []) := rfl
theorem RP_inv {v : Value} {y : DataW Unit × List MemPlace} (h : RP v = some y) : (v = .pointer none ∧ y.1 = .nil) ∨ ∃ f : Nat, v = .pointer (some ⟨f, 0, none⟩) ∧ y.1 = .lit (.int .i64 f) := by
  unfold RP at h
  split at h
  · cases h; exact Or.inr ⟨_, rfl, rfl⟩
  · cases h; exact Or.inl ⟨rfl, rfl⟩
  · cases h
def ptr (f : Nat) : Value := .pointer (some ⟨f, 0, none⟩)
def optPtr (pos : Nat → Nat) : Option Nat → Value
  | some f => ptr (pos f)
  | none => .pointer none
def chCells (pos : Nat → Nat) (c : Ch) : List Value := [.string (mk c.gone), .string (mk c.name), optPtr pos c.file]
def ftCells (f : Ft) : List Value := [.int .i64 f.step, .int .i64 f.kind, .int .i64 f.n]
def PlanAt (w : World) (pv : Value) (l : List Ft) : Prop :=
  (l = [] ∧ ∃ a c, pv = .slice a 0 c) ∨ ∃ g o cap cur, pv = .slice (some ⟨g, o, none⟩) l.length cap ∧ 0 < l.length ∧ w.heap[g]? = some (.cells cur 58 (0, 0)) ∧ l.length ≤ cap ∧ cap ≤ maxLen ∧ ∀ j : Nat, j < l.length * 3 → cur[o + j]? = (l.flatMap ftCells)[j]?
structure Lay where
  bn : Nat
  bl : Nat
  ov : Value
  pv : Value
  pos : Nat → Nat
  tv : Nat → Value
structure FileAt (base : Nat) (w : World) (f : Nat) (tv : Value) (x : Bs × Nat) : Prop where
  blk : w.heap[f]? = some (.cells #[tv, .int .i64 x.2] 86 (0, 0))
  row : w.ownsRow base 5 1 tv x.1.length (Lib.strCells (mk x.1))
  low : base ≤ f
  le : x.2 ≤ x.1.length
  big : x.1.length ≤ 140737488355328
structure DK (base b : Nat) (y : Lay) (d : Dk) (w : World) : Prop where
  disk : w.heap[b]? = some (.cells #[.map (some y.bn), .map (some y.bl), y.ov, y.pv, .int .i64 d.steps, .bool d.down] 69 (0, 0))
  bb : base ≤ b
  nb : base ≤ y.bn
  lb : base ≤ y.bl
  ne : y.bn ≠ y.bl
  nm : w.ownsMap Try.prog 9 RP y.bn d.names.length (toD y.pos d.names)
  ls : w.ownsMap Try.prog 9 RP y.bl d.last.length (toD y.pos d.last)
  op : w.ownsRow base 98 3 y.ov d.opens.length (d.opens.flatMap (chCells y.pos))
  pl : PlanAt w y.pv d.plan
  fl : ∀ i x, d.files[i]? = some x → FileAt base w (y.pos i) (y.tv i) x
  inj : ∀ i j, i < d.files.length → j < d.files.length → y.pos i = y.pos j → i = j
  apart : ∀ i j g, i < d.files.length → j < d.files.length → i ≠ j → (y.tv i).ownBlock = some g → (y.tv j).ownBlock ≠ some g
  ok : Ok d
  hb : base ≤ w.heap.size

theorem owns_norm {w : World} {b n : Nat} {pos : Nat → Nat} {l : NL} (h : w.ownsMap Try.prog 9 RP b n (toD pos l)) : w.ownsMap Try.prog 9 RP b l.length (toD pos l) := by
  obtain ⟨es, c, hb, F, hs, hD⟩ := h
  refine ⟨es, c, hb, F, ?_, hD⟩
  have e : Maps.size (toD pos l) = es.size := by rw [hD]; simp [Maps.size, length_sorted]
  rw [size_D] at e
  omega
theorem owns_kd {w : World} {b n : Nat} {D : DataW Unit} (h : w.ownsMap Try.prog 9 RP b n D) : kd w b = 1 := by
  obtain ⟨es, c, hb, _⟩ := h
  exact kd_map hb
theorem row_kd {w : World} {base e sz n g : Nat} {v : Value} {xs : List Value} (h : w.ownsRow base e sz v n xs) (hg : v.ownBlock = some g) : kd w g = e + 2 ∧ g < w.heap.size ∧ base ≤ g := by
  rcases h.2 with ⟨rfl, _⟩ | ⟨g', cap, cur, rfl, hb, hh, _⟩
  · simp [Value.ownBlock] at hg
  · obtain rfl : g' = g := by simpa [Value.ownBlock] using hg
    exact ⟨kd_cells hh, lt_of hh, hb⟩
theorem row_later {w w' : World} {base e sz n : Nat} {v : Value} {xs : List Value} (h : w.ownsRow base e sz v n xs) (hk : ∀ g, v.ownBlock = some g → w'.heap[g]? = w.heap[g]?) : w'.ownsRow base e sz v n xs := by
  refine ⟨h.1, ?_⟩
  rcases h.2 with hn | ⟨g, cap, cur, rfl, hb, hg, rest⟩
  · exact Or.inl hn
  · exact Or.inr ⟨g, cap, cur, rfl, hb, (hk g rfl).trans hg, rest⟩
theorem map_later {w w' : World} {b n : Nat} {D : DataW Unit} (h : w.ownsMap Try.prog 9 RP b n D) (hk : w'.heap[b]? = w.heap[b]?) : w'.ownsMap Try.prog 9 RP b n D := by
  obtain ⟨es, c, hb, rest⟩ := h
  exact ⟨es, c, hk.trans hb, rest⟩
theorem plan_later {w w' : World} {pv : Value} {l : List Ft} (h : PlanAt w pv l) (hk : ∀ k, k < w.heap.size → kd w k = 60 → w'.heap[k]? = w.heap[k]?) : PlanAt w' pv l := by
  rcases h with h | ⟨g, o, cap, cur, h1, h2, h3, h4⟩
  · exact Or.inl h
  · exact Or.inr ⟨g, o, cap, cur, h1, h2, (hk g (lt_of h3) (kd_cells h3)).trans h3, h4⟩
theorem file_later {base : Nat} {w w' : World} {f : Nat} {tv : Value} {x : Bs × Nat} (h : FileAt base w f tv x) (hf : w'.heap[f]? = w.heap[f]?) (hk : ∀ g, tv.ownBlock = some g → w'.heap[g]? = w.heap[g]?) : FileAt base w' f tv x :=
  ⟨hf.trans h.blk, row_later h.row hk, h.low, h.le, h.big⟩
/- nothing of the disk has turned -/
theorem DK.keep {T : Nat → Bool} {base bs b : Nat} {y : Lay} {d : Dk} {w w' : World} (h : DK base b y d w) (he : Ev T bs w w') (hT : ∀ n, (DT n || n == 60) = true → T n = false) : DK base b y d w' := by
  have hk : ∀ k, k < w.heap.size → (DT (kd w k) || kd w k == 60) = true → w'.heap[k]? = w.heap[k]? := fun k hk ht => he.block k hk (Or.inr (hT _ ht))
  have hr : ∀ {e sz n : Nat} {v : Value} {xs : List Value}, w.ownsRow base e sz v n xs → (DT (e + 2) || e + 2 == 60) = true → ∀ g, v.ownBlock = some g → w'.heap[g]? = w.heap[g]? := fun hrow ht g hg => by
    obtain ⟨q1, q2, q3⟩ := row_kd hrow hg
    exact hk g q2 (by rw [q1]; exact ht)
  exact ⟨(hk b (lt_of h.disk) (by rw [kd_cells h.disk]; rfl)).trans h.disk, h.bb, h.nb, h.lb, h.ne, map_later h.nm (hk _ h.nm.lt (by rw [owns_kd h.nm]; rfl)), map_later h.ls (hk _ h.ls.lt (by rw [owns_kd h.ls]; rfl)),
    row_later h.op (hr h.op rfl), plan_later h.pl (fun k hk2 e => hk k hk2 (by rw [e]; rfl)), fun i x hx => by
      have q := h.fl i x hx
      exact file_later q (hk _ (lt_of q.blk) (by rw [kd_cells q.blk]; rfl)) (hr q.row rfl), h.inj, h.apart, h.ok, Nat.le_trans h.hb he.size⟩
theorem DK.below {base b : Nat} {y : Lay} {d : Dk} {w w' : World} (h : DK base b y d w) (he : Below w.heap.size w w') : DK base b y d w' := h.keep (T := fun _ => false) (bs := 0) (Ev.of_below he) (fun _ _ => rfl)
theorem DK.alloc {base b : Nat} {y : Lay} {d : Dk} {w : World} (h : DK base b y d w) (o : Obj) : DK base b y d (w.alloc o) := h.below ((Below.refl _ w).alloc (Nat.le_refl _) o)
theorem DK.drewN {base b : Nat} {y : Lay} {d : Dk} {w : World} (h : DK base b y d w) (n : Nat) : DK base b y d (w.drewN n) := h.below ⟨rfl, rfl, rfl, Nat.le_refl _, fun _ _ => rfl⟩
theorem DK.cell {base b : Nat} {y : Lay} {d : Dk} {w : World} (h : DK base b y d w) (i : Nat) : w.cell? ⟨b, i, none⟩ = (#[.map (some y.bn), .map (some y.bl), y.ov, y.pv, .int .i64 d.steps, .bool d.down] : Array Value)[i]? := Lib.cell_of_heap h.disk i
theorem DK.frozen {base b : Nat} {y : Lay} {d : Dk} {w : World} (h : DK base b y d w) (i : Nat) : w.frozen? ⟨b, i, none⟩ = false := Lib.frozen_of_heap h.disk i
/- the disk's block alone has turned -/
theorem DK.own {base b : Nat} {y y' : Lay} {d d' : Dk} {w w' : World} (h : DK base b y d w) (hk : ∀ k, k < w.heap.size → k ≠ b → kd w k ≠ 100 → w'.heap[k]? = w.heap[k]?) (hs : w.heap.size ≤ w'.heap.size) (e1 : y'.bn = y.bn) (e2 : y'.bl = y.bl) (e3 : y'.pos = y.pos) (e4 : y'.tv = y.tv)
    (hd : w'.heap[b]? = some (.cells #[.map (some y'.bn), .map (some y'.bl), y'.ov, y'.pv, .int .i64 d'.steps, .bool d'.down] 69 (0, 0)))
    (f1 : d'.names = d.names) (f2 : d'.last = d.last) (f3 : d'.files = d.files) (op : w'.ownsRow base 98 3 y'.ov d'.opens.length (d'.opens.flatMap (chCells y.pos))) (pl : PlanAt w' y'.pv d'.plan) (ok : Ok d') : DK base b y' d' w' := by
  have hkk : ∀ k, k < w.heap.size → kd w k ≠ 71 → kd w k ≠ 100 → w'.heap[k]? = w.heap[k]? := fun k hk2 hn h100 => hk k hk2 (fun e => hn (by rw [e, kd_cells h.disk])) h100
  have hr : ∀ {e sz n : Nat} {v : Value} {xs : List Value}, w.ownsRow base e sz v n xs → e ≠ 69 → e ≠ 98 → ∀ g, v.ownBlock = some g → w'.heap[g]? = w.heap[g]? := fun hrow ht ht2 g hg => by
    obtain ⟨q1, q2, q3⟩ := row_kd hrow hg
    exact hkk g q2 (by rw [q1]; omega) (by rw [q1]; omega)
  refine ⟨hd, h.bb, e1 ▸ h.nb, e2 ▸ h.lb, by rw [e1, e2]; exact h.ne, ?_, ?_, by rw [e3]; exact op, pl, fun i x hx => ?_, by rw [f3, e3]; exact h.inj, by rw [f3, e4]; exact h.apart, ok, Nat.le_trans h.hb hs⟩
  · rw [e1, e3, f1]; exact map_later h.nm (hkk _ h.nm.lt (by rw [owns_kd h.nm]; decide) (by rw [owns_kd h.nm]; decide))
  · rw [e2, e3, f2]; exact map_later h.ls (hkk _ h.ls.lt (by rw [owns_kd h.ls]; decide) (by rw [owns_kd h.ls]; decide))
  · rw [f3] at hx
    rw [e3, e4]
    have q := h.fl i x hx
    exact file_later q (hkk _ (lt_of q.blk) (by rw [kd_cells q.blk]; decide) (by rw [kd_cells q.blk]; decide)) (hr q.row (by decide) (by decide))
/- one map has turned -/
theorem DK.maps {base b : Nat} {y : Lay} {d d' : Dk} {w w' : World} (h : DK base b y d w) (hk : ∀ k, k < w.heap.size → kd w k ≠ 1 → w'.heap[k]? = w.heap[k]?) (hs : w.heap.size ≤ w'.heap.size)
    (nm : w'.ownsMap Try.prog 9 RP y.bn d'.names.length (toD y.pos d'.names)) (ls : w'.ownsMap Try.prog 9 RP y.bl d'.last.length (toD y.pos d'.last)) (f1 : d'.files = d.files) (f2 : d'.opens = d.opens) (f3 : d'.plan = d.plan) (f4 : d'.steps = d.steps) (f5 : d'.down = d.down) (ok : Ok d') : DK base b y d' w' := by
  have hr : ∀ {e sz n : Nat} {v : Value} {xs : List Value}, w.ownsRow base e sz v n xs → ∀ g, v.ownBlock = some g → w'.heap[g]? = w.heap[g]? := fun hrow g hg => by
    obtain ⟨q1, q2, q3⟩ := row_kd hrow hg
    exact hk g q2 (by rw [q1]; omega)
  refine ⟨by rw [f4, f5]; exact (hk b (lt_of h.disk) (by rw [kd_cells h.disk]; decide)).trans h.disk, h.bb, h.nb, h.lb, h.ne, nm, ls, by rw [f2]; exact row_later h.op (hr h.op), by rw [f3]; exact plan_later h.pl (fun k hk2 e => hk k hk2 (by rw [e]; decide)), fun i x hx => ?_, by rw [f1]; exact h.inj, by rw [f1]; exact h.apart, ok, Nat.le_trans h.hb hs⟩
  rw [f1] at hx
  have q := h.fl i x hx
  exact file_later q (hk _ (lt_of q.blk) (by rw [kd_cells q.blk]; decide)) (hr q.row)
end Go.Proofs.Ytilbffbmpgebmaa.Base
