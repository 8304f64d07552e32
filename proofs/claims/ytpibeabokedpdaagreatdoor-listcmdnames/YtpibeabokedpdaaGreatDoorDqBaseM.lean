/- A list with two ends in memory: its own block, the row of its places; lists that are read; what a call may touch. A list with two ends in memory: its own block, the row of its places; lists that are read; what a call may touch. held, Len, fresh, Of, List. -/
import Derived.Test.YtpibeabokedpdaaGreatDoorProg
import Derived.WalkKit
import Derived.WalkSmall
import Derived.WalkLawsBesides
import Derived.WalkSpells
import Derived.BigQuiet
import Derived.BigRegion
import Derived.Below
import Derived.OwnWalk
import Derived.Lib.SliceRun
import Derived.Lib.Builder
import Derived.Laws.OwnMore
import Derived.Laws.CopyRow
import Derived.Deep.LoopGhost
import Derived.Deep.RegionWith
import Derived.Deep.AppendSrc
section
namespace Go.Proofs.YtpibeabokedpdaaGreatDoor.DqBase
open Go.RowKit
set_option linter.unusedVariables false
set_option linter.unusedSimpArgs false
abbrev El := Int
abbrev V (x : El) : Value := .int .i64 x
abbrev Z : El := 0
abbrev ptr (b : Nat) : Value := .pointer (some ⟨b, 0, none⟩)
theorem hid_of {p : Prop} (h : p) : Hid p := h
theorem lt_of {w : World} {b : Nat} {o : Obj} (h : w.heap[b]? = some o) : b < w.heap.size := (Array.getElem?_eq_some_iff.1 h).1
theorem set_at {w : World} {b i : Nat} {cs : Array Value} {ty : TypeId} {fz : Nat × Nat} (h : w.heap[b]? = some (.cells cs ty fz)) (v : Value) : (w.setCell ⟨b, i, none⟩ v).heap[b]? = some (.cells (cs.setIfInBounds i v) ty fz) := by
  rw [setCell_eq_setRow w b i cs ty fz v h]
  exact setRow_heap w b cs _ ty _ h
theorem set_ne {w : World} {b i k : Nat} (h : k ≠ b) (v : Value) : (w.setCell ⟨b, i, none⟩ v).heap[k]? = w.heap[k]? := Below.heap_setCell _ _ _ _ h
theorem size_set {w : World} (p : Addr) (v : Value) : (w.setCell p v).heap.size = w.heap.size := by simp [World.setCell]
theorem row_ne {w : World} {g k : Nat} {cs : Array Value} (h : k ≠ g) : (w.setRow g cs).heap[k]? = w.heap[k]? := by
  unfold World.setRow
  simp [Array.getElem?_modify, Ne.symm h]
theorem size_row {w : World} {g : Nat} {cs : Array Value} : (w.setRow g cs).heap.size = w.heap.size := by
  unfold World.setRow
  simp
theorem add_off (g o k : Nat) : (⟨g, o, none⟩ : Addr).add k = ⟨g, o + k, none⟩ := Addr.add_lit g o k

/- what a call may touch -/
structure Fr (F : Nat → Prop) (w w' : World) : Prop where
  os : w'.os = w.os
  tape : w'.tape = w.tape
  output : w'.output = w.output
  size : w.heap.size ≤ w'.heap.size
  block : ∀ k, k < w.heap.size → ¬ F k → w'.heap[k]? = w.heap[k]?
def Gr (F : Nat → Prop) (w : World) : Nat → Prop := fun k => F k ∨ w.heap.size ≤ k
theorem Fr.refl (F : Nat → Prop) (w : World) : Fr F w w := ⟨rfl, rfl, rfl, Nat.le_refl _, fun _ _ _ => rfl⟩
theorem Fr.trans {F : Nat → Prop} {a b c : World} (h : Fr F a b) (k : Fr (Gr F a) b c) : Fr F a c :=
  ⟨k.os.trans h.os, k.tape.trans h.tape, k.output.trans h.output, Nat.le_trans h.size k.size, fun i hi hn => (k.block i (Nat.lt_of_lt_of_le hi h.size) (fun e => by
    rcases e with e | e
    · exact hn e
    · omega)).trans (h.block i hi hn)⟩
theorem Fr.mono {F G : Nat → Prop} {a b : World} (h : Fr F a b) (hG : ∀ k, k < a.heap.size → F k → G k) : Fr G a b := ⟨h.os, h.tape, h.output, h.size, fun k hk hn => h.block k hk (fun e => hn (hG k hk e))⟩
theorem Fr.of_below {F : Nat → Prop} {a b : World} (h : Below a.heap.size a b) : Fr F a b := ⟨h.os, h.tape, h.output, h.size, fun k hk _ => h.block k hk⟩
theorem Fr.below {F : Nat → Prop} {a b : World} (h : Fr F a b) {base : Nat} (hb : base ≤ a.heap.size) (hF : ∀ k, F k → base ≤ k) : Below base a b := ⟨h.os, h.tape, h.output, h.size, fun k hk => h.block k (by omega) (fun e => by have := hF k e; omega)⟩
theorem Fr.alloc {F : Nat → Prop} {a b : World} (h : Fr F a b) (o : Obj) : Fr F a (b.alloc o) := h.trans (Fr.of_below ((Below.refl _ b).alloc (Nat.le_refl _) o))
theorem Fr.drew {F : Nat → Prop} {a b : World} (h : Fr F a b) : Fr F a b.drew := ⟨h.os, h.tape, h.output, h.size, h.block⟩
theorem Fr.drewN {F : Nat → Prop} {a b : World} (h : Fr F a b) (n : Nat) : Fr F a (b.drewN n) := ⟨h.os, h.tape, h.output, h.size, h.block⟩
theorem Fr.set {F : Nat → Prop} {w : World} {f i : Nat} (hF : F f) (v : Value) : Fr F w (w.setCell ⟨f, i, none⟩ v) := by
  have e0 : Below 0 w (w.setCell ⟨f, i, none⟩ v) := (Below.refl 0 w).setCell (Nat.zero_le _) v
  exact ⟨e0.os, e0.tape, e0.output, e0.size, fun k hk hn => set_ne (fun e => hn (by rw [e]; exact hF)) v⟩
theorem Fr.row {F : Nat → Prop} {w : World} {g : Nat} (hF : F g) (cs : Array Value) : Fr F w (w.setRow g cs) :=
  ⟨rfl, rfl, rfl, by rw [size_row]; exact Nat.le_refl _, fun k hk hn => row_ne (fun e => hn (by rw [e]; exact hF))⟩
theorem bel_drewN (w : World) (n : Nat) : Below w.heap.size w (w.drewN n) := ⟨rfl, rfl, rfl, Nat.le_refl _, fun _ _ => rfl⟩

/- a row of elements fills a block -/
def cells (xs : List El) : Array Value := (xs.map V).toArray
theorem cells_size (xs : List El) : (cells xs).size = xs.length := by simp [cells]
theorem cells_get (xs : List El) (j : Nat) : (cells xs)[j]? = xs[j]?.map V := by simp [cells]
def RowIs (w : World) (g : Nat) (xs : List El) : Prop := w.heap[g]? = some (.cells (cells xs) 3 (0, 0))
theorem RowIs.cell {w : World} {g : Nat} {xs : List El} (h : RowIs w g xs) (j : Nat) : w.cell? ⟨g, j, none⟩ = xs[j]?.map V := by
  rw [Lib.cell_of_heap h, cells_get]
theorem RowIs.frozen {w : World} {g : Nat} {xs : List El} (h : RowIs w g xs) (j : Nat) : w.frozen? ⟨g, j, none⟩ = false := Lib.frozen_of_heap h j
theorem RowIs.lt {w : World} {g : Nat} {xs : List El} (h : RowIs w g xs) : g < w.heap.size := lt_of h
theorem RowIs.drewN {w : World} {g : Nat} {xs : List El} (h : RowIs w g xs) (n : Nat) : RowIs (w.drewN n) g xs := h
theorem RowIs.set {w : World} {g : Nat} {xs : List El} (h : RowIs w g xs) (i : Nat) (x : El) : RowIs (w.setCell ⟨g, i, none⟩ (V x)) g (xs.set i x) := by
  unfold RowIs
  rw [set_at h]
  simp [cells, List.map_set]
/-- cs laid over xs from o on -/
def lay (xs : List El) (o : Nat) (cs : List El) : List El := xs.take o ++ cs ++ xs.drop (o + cs.length)
theorem lay_len {xs : List El} {o : Nat} {cs : List El} (h : o + cs.length ≤ xs.length) : (lay xs o cs).length = xs.length := by simp [lay]; omega
theorem lay_nil (xs : List El) (o : Nat) : lay xs o [] = xs := by simp [lay]
theorem RowIs.lay {w : World} {g : Nat} {xs : List El} (h : RowIs w g xs) (o : Nat) (cs : List El) : RowIs (w.setRow g ((cells xs).toList.take o ++ cs.map V ++ (cells xs).toList.drop (o + (cs.map V).length)).toArray) g (lay xs o cs) := by
  unfold RowIs
  rw [setRow_heap w g (cells xs) _ 3 (0, 0) h]
  simp [cells, DqBase.lay, List.map_take, List.map_drop]

/- a slice: its address, its length and its room -/
def ca (a : Option Addr) (c i : Nat) : Option Addr := if c = i then a else a.map (·.add i)
theorem ca_some (g o c i : Nat) (h : i < c) : ca (some ⟨g, o, none⟩) c i = some ⟨g, o + i, none⟩ := by
  unfold ca
  rw [if_neg (by omega)]
  simp [add_off]
theorem ca_zero (a : Option Addr) (c : Nat) : ca a c 0 = a := by
  unfold ca
  by_cases h : c = 0
  · rw [if_pos h]
  · rw [if_neg h]
    cases a with
    | none => rfl
    | some a => simp [Addr.add]
theorem size3 (w : World) : (Go.sizeOf 3).run Tryz.prog w = .ok 1 w := by kernel_rfl
theorem cut_any (a : Option Addr) (n c i j : Nat) (x y : Int) (hx : x = i) (hy : y = j) (hij : i ≤ j) (hj : j ≤ c) (w : World) :
    (Instr.slice 127 (.slice a n c) (some (.int .i64 x)) (some (.int .i64 y)) none).run Tryz.prog w = .ok (.slice (ca a c i) (j - i) (c - i)) w := by
  subst hx; subst hy
  have h1 : (i : Int) ≤ j := by omega
  have h2 : (j : Int) ≤ c := by omega
  simp [Instr.slice, run_underlying Tryz.underlying127, Instr.sliceBounds, run_sliceBound, size3, ca, h1, h2]
theorem cut_lo (a : Option Addr) (n c i : Nat) (x : Int) (hx : x = i) (hi : i ≤ n) (w : World) :
    (Instr.slice 127 (.slice a n c) (some (.int .i64 x)) none none).run Tryz.prog w = .ok (.slice (ca a c i) (n - i) (c - i)) w := by
  subst hx
  have h1 : (i : Int) ≤ n := by omega
  simp [Instr.slice, run_underlying Tryz.underlying127, Instr.sliceBounds, run_sliceBound, size3, ca, h1]
theorem cut_hi (a : Option Addr) (n c j : Nat) (y : Int) (hy : y = j) (hj : j ≤ c) (w : World) :
    (Instr.slice 127 (.slice a n c) none (some (.int .i64 y)) none).run Tryz.prog w = .ok (.slice a j c) w := by
  subst hy
  have h2 : (j : Int) ≤ c := by omega
  have := ca_zero a c
  unfold ca at this
  simp [Instr.slice, run_underlying Tryz.underlying127, Instr.sliceBounds, run_sliceBound, size3, h2, this]

/-- behind the address a lie the elements l, in a block of which G holds -/
def Rd (G : Nat → Prop) (w : World) (a : Option Addr) (l : List El) : Prop := l = [] ∨ ∃ g o, a = some ⟨g, o, none⟩ ∧ G g ∧ ∀ j x, l[j]? = some x → w.cell? ⟨g, o + j, none⟩ = some (V x)
def SL (G : Nat → Prop) (w : World) (v : Value) (l : List El) : Prop := ∃ a c, v = .slice a l.length c ∧ l.length ≤ c ∧ Rd G w a l
theorem cell_lt {w : World} {p : Addr} {v : Value} (h : w.cell? p = some v) : p.block < w.heap.size := block_lt_of_cell h
theorem Rd.lt {G : Nat → Prop} {w : World} {a : Option Addr} {l : List El} (h : Rd G w a l) : Rd (fun k => G k ∧ k < w.heap.size) w a l := by
  rcases h with rfl | ⟨g, o, rfl, hG, hc⟩
  · exact .inl rfl
  · cases l with
    | nil => exact .inl rfl
    | cons x r => exact .inr ⟨g, o, rfl, ⟨hG, cell_lt (hc 0 x rfl)⟩, hc⟩
theorem Rd.mono {G G' : Nat → Prop} {w : World} {a : Option Addr} {l : List El} (h : Rd G w a l) (hG : ∀ k, k < w.heap.size → G k → G' k) : Rd G' w a l := by
  rcases h.lt with rfl | ⟨g, o, rfl, hg, hc⟩
  · exact .inl rfl
  · exact .inr ⟨g, o, rfl, hG g hg.2 hg.1, hc⟩
theorem Rd.keep {G : Nat → Prop} {w w' : World} {a : Option Addr} {l : List El} (h : Rd G w a l) (hk : ∀ k, k < w.heap.size → G k → w'.heap[k]? = w.heap[k]?) : Rd G w' a l := by
  rcases h.lt with rfl | ⟨g, o, rfl, hg, hc⟩
  · exact .inl rfl
  · exact .inr ⟨g, o, rfl, hg.1, fun j x hj => (World.cell?_of_block (w := w) (hk g hg.2 hg.1)).trans (hc j x hj)⟩
theorem Rd.take {G : Nat → Prop} {w : World} {a : Option Addr} {l : List El} (h : Rd G w a l) (k : Nat) : Rd G w a (l.take k) := by
  rcases h with rfl | ⟨g, o, rfl, hg, hc⟩
  · exact .inl (by simp)
  · exact .inr ⟨g, o, rfl, hg, fun j x hj => hc j x (by
      rw [List.getElem?_take] at hj
      split at hj
      · exact hj
      · cases hj)⟩
theorem Rd.drop {G : Nat → Prop} {w : World} {a : Option Addr} {l : List El} (h : Rd G w a l) {c : Nat} (hc : l.length ≤ c) (i : Nat) : Rd G w (ca a c i) (l.drop i) := by
  by_cases q : l.length ≤ i
  · exact .inl (List.drop_eq_nil_of_le q)
  · rcases h with rfl | ⟨g, o, rfl, hg, hr⟩
    · exact .inl (by simp)
    · refine .inr ⟨g, o + i, ca_some g o c i (by omega), hg, fun j x hj => ?_⟩
      rw [List.getElem?_drop] at hj
      have := hr _ x hj
      rwa [show o + (i + j) = o + i + j by omega] at this
theorem SL.mono {G G' : Nat → Prop} {w : World} {v : Value} {l : List El} (h : SL G w v l) (hG : ∀ k, k < w.heap.size → G k → G' k) : SL G' w v l := by
  obtain ⟨a, c, rfl, hc, hr⟩ := h
  exact ⟨a, c, rfl, hc, hr.mono hG⟩
theorem SL.keep {G : Nat → Prop} {w w' : World} {v : Value} {l : List El} (h : SL G w v l) (hk : ∀ k, k < w.heap.size → G k → w'.heap[k]? = w.heap[k]?) : SL G w' v l := by
  obtain ⟨a, c, rfl, hc, hr⟩ := h
  exact ⟨a, c, rfl, hc, hr.keep hk⟩
theorem SL.below {G : Nat → Prop} {w w' : World} {v : Value} {l : List El} (h : SL G w v l) (b : Below w.heap.size w w') : SL G w' v l := h.keep fun k hk _ => b.block k hk
theorem SL.drewN {G : Nat → Prop} {w : World} {v : Value} {l : List El} (h : SL G w v l) (n : Nat) : SL G (w.drewN n) v l := h.keep fun _ _ _ => rfl
theorem SL.fr {F : Nat → Prop} {w w' : World} {v : Value} {l : List El} (h : SL (fun k => ¬ F k) w v l) (f : Fr F w w') : SL (fun k => ¬ Gr F w k) w' v l := by
  obtain ⟨a, c, rfl, hc, hr⟩ := h
  refine ⟨a, c, rfl, hc, (hr.lt.keep fun k hk hn => f.block k hk hn.1).mono fun k _ hn e => ?_⟩
  rcases e with e | e
  · exact hn.1 e
  · exact absurd hn.2 (by omega)
theorem SL.nil (G : Nat → Prop) (w : World) : SL G w (.slice none 0 0) [] := ⟨none, 0, rfl, Nat.le_refl _, .inl rfl⟩

/-- a new row from block B on that reads as l -/
def NR (B : Nat) (w : World) (v : Value) (l : List El) : Prop := (v = .slice none 0 0 ∧ l = []) ∨ ∃ g c xs, v = .slice (some ⟨g, 0, none⟩) l.length c ∧ B ≤ g ∧ RowIs w g xs ∧ xs.length = c ∧ l.length ≤ c ∧ xs.take l.length = l
theorem NR.sl {B : Nat} {w : World} {v : Value} {l : List El} (h : NR B w v l) : SL (fun k => B ≤ k) w v l := by
  rcases h with ⟨rfl, rfl⟩ | ⟨g, c, xs, rfl, hB, hr, hx, hl, ht⟩
  · exact SL.nil _ _
  · refine ⟨_, _, rfl, hl, .inr ⟨g, 0, rfl, hB, fun j x hj => ?_⟩⟩
    rw [hr.cell, Nat.zero_add]
    rw [← ht, List.getElem?_take] at hj
    split at hj
    · rw [hj]; rfl
    · cases hj
theorem NR.keep {B : Nat} {w w' : World} {v : Value} {l : List El} (h : NR B w v l) (hk : ∀ k, k < w.heap.size → B ≤ k → w'.heap[k]? = w.heap[k]?) : NR B w' v l := by
  rcases h with h | ⟨g, c, xs, rfl, hB, hr, hx, hl, ht⟩
  · exact .inl h
  · exact .inr ⟨g, c, xs, rfl, hB, (hk g hr.lt hB).trans hr, hx, hl, ht⟩
theorem NR.below {B : Nat} {w w' : World} {v : Value} {l : List El} (h : NR B w v l) (b : Below w.heap.size w w') : NR B w' v l := h.keep fun k hk _ => b.block k hk
theorem NR.mono {B B' : Nat} {w : World} {v : Value} {l : List El} (h : NR B w v l) (hB : B' ≤ B) : NR B' w v l := by
  rcases h with h | ⟨g, c, xs, rfl, hb, r⟩
  · exact .inl h
  · exact .inr ⟨g, c, xs, rfl, Nat.le_trans hB hb, r⟩

/- the list itself -/
structure DK (F : Nat → Prop) (b : Nat) (a : Option Addr) (n c f : Nat) (xs l : List El) (w : World) : Prop where
  blk : w.heap[b]? = some (.cells #[.slice a n c, .int .i64 (f : Int), .int .i64 ((f + l.length : Nat) : Int)] 178 (0, 0))
  own : F b
  fit : f + l.length ≤ n
  nc : n ≤ c
  lim : n ≤ 35184372088832
  row : (a = none ∧ c = 0) ∨ ∃ g, a = some ⟨g, 0, none⟩ ∧ F g ∧ xs.length = c ∧ RowIs w g xs
  is : (xs.drop f).take l.length = l
def DQ (F : Nat → Prop) (b : Nat) (l : List El) (w : World) : Prop := ∃ a n c f xs, DK F b a n c f xs l w
theorem DK.mono {F G : Nat → Prop} {b : Nat} {a : Option Addr} {n c f : Nat} {xs l : List El} {w : World} (h : DK F b a n c f xs l w) (hG : ∀ k, k < w.heap.size → F k → G k) : DK G b a n c f xs l w := by
  refine ⟨h.blk, hG _ (lt_of h.blk) h.own, h.fit, h.nc, h.lim, ?_, h.is⟩
  rcases h.row with r | ⟨g, e, hF, hx, hr⟩
  · exact .inl r
  · exact .inr ⟨g, e, hG g hr.lt hF, hx, hr⟩
theorem DK.keep {F : Nat → Prop} {b : Nat} {a : Option Addr} {n c f : Nat} {xs l : List El} {w w' : World} (h : DK F b a n c f xs l w) (hk : ∀ k, k < w.heap.size → F k → w'.heap[k]? = w.heap[k]?) : DK F b a n c f xs l w' := by
  refine ⟨(hk b (lt_of h.blk) h.own).trans h.blk, h.own, h.fit, h.nc, h.lim, ?_, h.is⟩
  rcases h.row with r | ⟨g, e, hF, hx, hr⟩
  · exact .inl r
  · exact .inr ⟨g, e, hF, hx, (hk g hr.lt hF).trans hr⟩
theorem DQ.mono {F G : Nat → Prop} {b : Nat} {l : List El} {w : World} (h : DQ F b l w) (hG : ∀ k, k < w.heap.size → F k → G k) : DQ G b l w := by
  obtain ⟨a, n, c, f, xs, h⟩ := h
  exact ⟨a, n, c, f, xs, h.mono hG⟩
theorem DQ.keep {F : Nat → Prop} {b : Nat} {l : List El} {w w' : World} (h : DQ F b l w) (hk : ∀ k, k < w.heap.size → F k → w'.heap[k]? = w.heap[k]?) : DQ F b l w' := by
  obtain ⟨a, n, c, f, xs, h⟩ := h
  exact ⟨a, n, c, f, xs, h.keep hk⟩
theorem DQ.below {F : Nat → Prop} {b : Nat} {l : List El} {w w' : World} (h : DQ F b l w) (e : Below w.heap.size w w') : DQ F b l w' := h.keep fun k hk _ => e.block k hk
theorem DQ.drewN {F : Nat → Prop} {b : Nat} {l : List El} {w : World} (h : DQ F b l w) (m : Nat) : DQ F b l (w.drewN m) := h.keep fun _ _ _ => rfl
theorem DQ.low {F : Nat → Prop} {b : Nat} {l : List El} {w : World} (h : DQ F b l w) : DQ (fun k => F k ∧ k < w.heap.size) b l w := h.mono fun k hk hf => ⟨hf, hk⟩
theorem DQ.up {F : Nat → Prop} {b : Nat} {l : List El} {w : World} (h : DQ F b l w) (w0 : World) : DQ (Gr F w0) b l w := h.mono fun k hk hf => .inl hf
theorem DK.ne {F : Nat → Prop} {b : Nat} {a : Option Addr} {n c f : Nat} {xs l : List El} {w : World} (h : DK F b a n c f xs l w) {g : Nat} {ys : List El} (hr : RowIs w g ys) : b ≠ g := by
  rintro rfl
  have := h.blk
  rw [show w.heap[b]? = _ from hr] at this
  injection this with this
  injection this with _ this
  exact absurd this (by decide)
theorem DK.cell {F : Nat → Prop} {b : Nat} {a : Option Addr} {n c f : Nat} {xs l : List El} {w : World} (h : DK F b a n c f xs l w) (i : Nat) : w.cell? ⟨b, i, none⟩ = (#[.slice a n c, .int .i64 (f : Int), .int .i64 ((f + l.length : Nat) : Int)] : Array Value)[i]? := Lib.cell_of_heap h.blk i
theorem DK.frozen {F : Nat → Prop} {b : Nat} {a : Option Addr} {n c f : Nat} {xs l : List El} {w : World} (h : DK F b a n c f xs l w) (i : Nat) : w.frozen? ⟨b, i, none⟩ = false := Lib.frozen_of_heap h.blk i
/-- the elements where they stand -/
theorem DK.rd {F : Nat → Prop} {b : Nat} {a : Option Addr} {n c f : Nat} {xs l : List El} {w : World} (h : DK F b a n c f xs l w) : Rd F w (ca a c f) l := by
  by_cases q : l = []
  · exact .inl q
  · have hl : 0 < l.length := List.length_pos_iff.2 q
    have h1 := h.fit
    have h2 := h.nc
    rcases h.row with ⟨rfl, rfl⟩ | ⟨g, rfl, hF, hx, hr⟩
    · omega
    · refine .inr ⟨g, 0 + f, ca_some g 0 c f (by omega), hF, fun j x hj => ?_⟩
      rw [hr.cell]
      rw [← h.is, List.getElem?_take] at hj
      split at hj
      · rw [List.getElem?_drop] at hj
        rw [show 0 + f + j = f + j by omega, hj]; rfl
      · cases hj
end Go.Proofs.YtpibeabokedpdaaGreatDoor.DqBase
end
section
namespace Go.Proofs.YtpibeabokedpdaaGreatDoor.DqSBase
open Go.RowKit
open Go.Proofs.YtpibeabokedpdaaGreatDoor.DqBase (Fr Gr ptr hid_of lt_of set_at set_ne size_set row_ne size_row add_off bel_drewN ca ca_some ca_zero cell_lt)
set_option linter.unusedVariables false
set_option linter.unusedSimpArgs false
abbrev El := ByteArray
abbrev V (x : El) : Value := .string x
abbrev Z : El := ⟨#[]⟩
instance : LawfulBEq ByteArray where
  eq_of_beq {a b} h := by
    cases a; cases b
    have h : ByteArray.beq _ _ = true := h
    simpa [ByteArray.beq] using h
  rfl {a} := by
    cases a
    show ByteArray.beq _ _ = true
    simp [ByteArray.beq]
/- a row of elements fills a block -/
def cells (xs : List El) : Array Value := (xs.map V).toArray
theorem cells_size (xs : List El) : (cells xs).size = xs.length := by simp [cells]
theorem cells_get (xs : List El) (j : Nat) : (cells xs)[j]? = xs[j]?.map V := by simp [cells]
def RowIs (w : World) (g : Nat) (xs : List El) : Prop := w.heap[g]? = some (.cells (cells xs) 9 (0, 0))
theorem RowIs.cell {w : World} {g : Nat} {xs : List El} (h : RowIs w g xs) (j : Nat) : w.cell? ⟨g, j, none⟩ = xs[j]?.map V := by
  rw [Lib.cell_of_heap h, cells_get]
theorem RowIs.frozen {w : World} {g : Nat} {xs : List El} (h : RowIs w g xs) (j : Nat) : w.frozen? ⟨g, j, none⟩ = false := Lib.frozen_of_heap h j
theorem RowIs.lt {w : World} {g : Nat} {xs : List El} (h : RowIs w g xs) : g < w.heap.size := lt_of h
theorem RowIs.drewN {w : World} {g : Nat} {xs : List El} (h : RowIs w g xs) (n : Nat) : RowIs (w.drewN n) g xs := h
theorem RowIs.set {w : World} {g : Nat} {xs : List El} (h : RowIs w g xs) (i : Nat) (x : El) : RowIs (w.setCell ⟨g, i, none⟩ (V x)) g (xs.set i x) := by
  unfold RowIs
  rw [set_at h]
  simp [cells, List.map_set]
/-- cs laid over xs from o on -/
def lay (xs : List El) (o : Nat) (cs : List El) : List El := xs.take o ++ cs ++ xs.drop (o + cs.length)
theorem lay_len {xs : List El} {o : Nat} {cs : List El} (h : o + cs.length ≤ xs.length) : (lay xs o cs).length = xs.length := by simp [lay]; omega
theorem lay_nil (xs : List El) (o : Nat) : lay xs o [] = xs := by simp [lay]
theorem RowIs.lay {w : World} {g : Nat} {xs : List El} (h : RowIs w g xs) (o : Nat) (cs : List El) : RowIs (w.setRow g ((cells xs).toList.take o ++ cs.map V ++ (cells xs).toList.drop (o + (cs.map V).length)).toArray) g (lay xs o cs) := by
  unfold RowIs
  rw [setRow_heap w g (cells xs) _ 9 (0, 0) h]
  simp [cells, DqSBase.lay, List.map_take, List.map_drop]

/- a slice: its address, its length and its room -/
theorem size9 (w : World) : (Go.sizeOf 9).run Tryz.prog w = .ok 1 w := by kernel_rfl
theorem cut_any (a : Option Addr) (n c i j : Nat) (x y : Int) (hx : x = i) (hy : y = j) (hij : i ≤ j) (hj : j ≤ c) (w : World) :
    (Instr.slice 22 (.slice a n c) (some (.int .i64 x)) (some (.int .i64 y)) none).run Tryz.prog w = .ok (.slice (ca a c i) (j - i) (c - i)) w := by
  subst hx; subst hy
  have h1 : (i : Int) ≤ j := by omega
  have h2 : (j : Int) ≤ c := by omega
  simp [Instr.slice, run_underlying Tryz.underlying22, Instr.sliceBounds, run_sliceBound, size9, ca, h1, h2]
theorem cut_lo (a : Option Addr) (n c i : Nat) (x : Int) (hx : x = i) (hi : i ≤ n) (w : World) :
    (Instr.slice 22 (.slice a n c) (some (.int .i64 x)) none none).run Tryz.prog w = .ok (.slice (ca a c i) (n - i) (c - i)) w := by
  subst hx
  have h1 : (i : Int) ≤ n := by omega
  simp [Instr.slice, run_underlying Tryz.underlying22, Instr.sliceBounds, run_sliceBound, size9, ca, h1]
theorem cut_hi (a : Option Addr) (n c j : Nat) (y : Int) (hy : y = j) (hj : j ≤ c) (w : World) :
    (Instr.slice 22 (.slice a n c) none (some (.int .i64 y)) none).run Tryz.prog w = .ok (.slice a j c) w := by
  subst hy
  have h2 : (j : Int) ≤ c := by omega
  have := ca_zero a c
  unfold ca at this
  simp [Instr.slice, run_underlying Tryz.underlying22, Instr.sliceBounds, run_sliceBound, size9, h2, this]

/-- behind the address a lie the elements l, in a block of which G holds -/
def Rd (G : Nat → Prop) (w : World) (a : Option Addr) (l : List El) : Prop := l = [] ∨ ∃ g o, a = some ⟨g, o, none⟩ ∧ G g ∧ ∀ j x, l[j]? = some x → w.cell? ⟨g, o + j, none⟩ = some (V x)
def SL (G : Nat → Prop) (w : World) (v : Value) (l : List El) : Prop := ∃ a c, v = .slice a l.length c ∧ l.length ≤ c ∧ Rd G w a l
theorem Rd.lt {G : Nat → Prop} {w : World} {a : Option Addr} {l : List El} (h : Rd G w a l) : Rd (fun k => G k ∧ k < w.heap.size) w a l := by
  rcases h with rfl | ⟨g, o, rfl, hG, hc⟩
  · exact .inl rfl
  · cases l with
    | nil => exact .inl rfl
    | cons x r => exact .inr ⟨g, o, rfl, ⟨hG, cell_lt (hc 0 x rfl)⟩, hc⟩
theorem Rd.mono {G G' : Nat → Prop} {w : World} {a : Option Addr} {l : List El} (h : Rd G w a l) (hG : ∀ k, k < w.heap.size → G k → G' k) : Rd G' w a l := by
  rcases h.lt with rfl | ⟨g, o, rfl, hg, hc⟩
  · exact .inl rfl
  · exact .inr ⟨g, o, rfl, hG g hg.2 hg.1, hc⟩
theorem Rd.keep {G : Nat → Prop} {w w' : World} {a : Option Addr} {l : List El} (h : Rd G w a l) (hk : ∀ k, k < w.heap.size → G k → w'.heap[k]? = w.heap[k]?) : Rd G w' a l := by
  rcases h.lt with rfl | ⟨g, o, rfl, hg, hc⟩
  · exact .inl rfl
  · exact .inr ⟨g, o, rfl, hg.1, fun j x hj => (World.cell?_of_block (w := w) (hk g hg.2 hg.1)).trans (hc j x hj)⟩
theorem Rd.take {G : Nat → Prop} {w : World} {a : Option Addr} {l : List El} (h : Rd G w a l) (k : Nat) : Rd G w a (l.take k) := by
  rcases h with rfl | ⟨g, o, rfl, hg, hc⟩
  · exact .inl (by simp)
  · exact .inr ⟨g, o, rfl, hg, fun j x hj => hc j x (by
      rw [List.getElem?_take] at hj
      split at hj
      · exact hj
      · cases hj)⟩
theorem Rd.drop {G : Nat → Prop} {w : World} {a : Option Addr} {l : List El} (h : Rd G w a l) {c : Nat} (hc : l.length ≤ c) (i : Nat) : Rd G w (ca a c i) (l.drop i) := by
  by_cases q : l.length ≤ i
  · exact .inl (List.drop_eq_nil_of_le q)
  · rcases h with rfl | ⟨g, o, rfl, hg, hr⟩
    · exact .inl (by simp)
    · refine .inr ⟨g, o + i, ca_some g o c i (by omega), hg, fun j x hj => ?_⟩
      rw [List.getElem?_drop] at hj
      have := hr _ x hj
      rwa [show o + (i + j) = o + i + j by omega] at this
theorem SL.mono {G G' : Nat → Prop} {w : World} {v : Value} {l : List El} (h : SL G w v l) (hG : ∀ k, k < w.heap.size → G k → G' k) : SL G' w v l := by
  obtain ⟨a, c, rfl, hc, hr⟩ := h
  exact ⟨a, c, rfl, hc, hr.mono hG⟩
theorem SL.keep {G : Nat → Prop} {w w' : World} {v : Value} {l : List El} (h : SL G w v l) (hk : ∀ k, k < w.heap.size → G k → w'.heap[k]? = w.heap[k]?) : SL G w' v l := by
  obtain ⟨a, c, rfl, hc, hr⟩ := h
  exact ⟨a, c, rfl, hc, hr.keep hk⟩
theorem SL.below {G : Nat → Prop} {w w' : World} {v : Value} {l : List El} (h : SL G w v l) (b : Below w.heap.size w w') : SL G w' v l := h.keep fun k hk _ => b.block k hk
theorem SL.drewN {G : Nat → Prop} {w : World} {v : Value} {l : List El} (h : SL G w v l) (n : Nat) : SL G (w.drewN n) v l := h.keep fun _ _ _ => rfl
theorem SL.fr {F : Nat → Prop} {w w' : World} {v : Value} {l : List El} (h : SL (fun k => ¬ F k) w v l) (f : Fr F w w') : SL (fun k => ¬ Gr F w k) w' v l := by
  obtain ⟨a, c, rfl, hc, hr⟩ := h
  refine ⟨a, c, rfl, hc, (hr.lt.keep fun k hk hn => f.block k hk hn.1).mono fun k _ hn e => ?_⟩
  rcases e with e | e
  · exact hn.1 e
  · exact absurd hn.2 (by omega)
theorem SL.nil (G : Nat → Prop) (w : World) : SL G w (.slice none 0 0) [] := ⟨none, 0, rfl, Nat.le_refl _, .inl rfl⟩

/-- a new row from block B on that reads as l -/
def NR (B : Nat) (w : World) (v : Value) (l : List El) : Prop := (v = .slice none 0 0 ∧ l = []) ∨ ∃ g c xs, v = .slice (some ⟨g, 0, none⟩) l.length c ∧ B ≤ g ∧ RowIs w g xs ∧ xs.length = c ∧ l.length ≤ c ∧ xs.take l.length = l
theorem NR.sl {B : Nat} {w : World} {v : Value} {l : List El} (h : NR B w v l) : SL (fun k => B ≤ k) w v l := by
  rcases h with ⟨rfl, rfl⟩ | ⟨g, c, xs, rfl, hB, hr, hx, hl, ht⟩
  · exact SL.nil _ _
  · refine ⟨_, _, rfl, hl, .inr ⟨g, 0, rfl, hB, fun j x hj => ?_⟩⟩
    rw [hr.cell, Nat.zero_add]
    rw [← ht, List.getElem?_take] at hj
    split at hj
    · rw [hj]; rfl
    · cases hj
theorem NR.keep {B : Nat} {w w' : World} {v : Value} {l : List El} (h : NR B w v l) (hk : ∀ k, k < w.heap.size → B ≤ k → w'.heap[k]? = w.heap[k]?) : NR B w' v l := by
  rcases h with h | ⟨g, c, xs, rfl, hB, hr, hx, hl, ht⟩
  · exact .inl h
  · exact .inr ⟨g, c, xs, rfl, hB, (hk g hr.lt hB).trans hr, hx, hl, ht⟩
theorem NR.below {B : Nat} {w w' : World} {v : Value} {l : List El} (h : NR B w v l) (b : Below w.heap.size w w') : NR B w' v l := h.keep fun k hk _ => b.block k hk
theorem NR.mono {B B' : Nat} {w : World} {v : Value} {l : List El} (h : NR B w v l) (hB : B' ≤ B) : NR B' w v l := by
  rcases h with h | ⟨g, c, xs, rfl, hb, r⟩
  · exact .inl h
  · exact .inr ⟨g, c, xs, rfl, Nat.le_trans hB hb, r⟩

/- the list itself -/
structure DK (F : Nat → Prop) (b : Nat) (a : Option Addr) (n c f : Nat) (xs l : List El) (w : World) : Prop where
  blk : w.heap[b]? = some (.cells #[.slice a n c, .int .i64 (f : Int), .int .i64 ((f + l.length : Nat) : Int)] 178 (0, 0))
  own : F b
  fit : f + l.length ≤ n
  nc : n ≤ c
  lim : n ≤ 35184372088832
  row : (a = none ∧ c = 0) ∨ ∃ g, a = some ⟨g, 0, none⟩ ∧ F g ∧ xs.length = c ∧ RowIs w g xs
  is : (xs.drop f).take l.length = l
def DQ (F : Nat → Prop) (b : Nat) (l : List El) (w : World) : Prop := ∃ a n c f xs, DK F b a n c f xs l w
theorem DK.mono {F G : Nat → Prop} {b : Nat} {a : Option Addr} {n c f : Nat} {xs l : List El} {w : World} (h : DK F b a n c f xs l w) (hG : ∀ k, k < w.heap.size → F k → G k) : DK G b a n c f xs l w := by
  refine ⟨h.blk, hG _ (lt_of h.blk) h.own, h.fit, h.nc, h.lim, ?_, h.is⟩
  rcases h.row with r | ⟨g, e, hF, hx, hr⟩
  · exact .inl r
  · exact .inr ⟨g, e, hG g hr.lt hF, hx, hr⟩
theorem DK.keep {F : Nat → Prop} {b : Nat} {a : Option Addr} {n c f : Nat} {xs l : List El} {w w' : World} (h : DK F b a n c f xs l w) (hk : ∀ k, k < w.heap.size → F k → w'.heap[k]? = w.heap[k]?) : DK F b a n c f xs l w' := by
  refine ⟨(hk b (lt_of h.blk) h.own).trans h.blk, h.own, h.fit, h.nc, h.lim, ?_, h.is⟩
  rcases h.row with r | ⟨g, e, hF, hx, hr⟩
  · exact .inl r
  · exact .inr ⟨g, e, hF, hx, (hk g hr.lt hF).trans hr⟩
theorem DQ.mono {F G : Nat → Prop} {b : Nat} {l : List El} {w : World} (h : DQ F b l w) (hG : ∀ k, k < w.heap.size → F k → G k) : DQ G b l w := by
  obtain ⟨a, n, c, f, xs, h⟩ := h
  exact ⟨a, n, c, f, xs, h.mono hG⟩
theorem DQ.keep {F : Nat → Prop} {b : Nat} {l : List El} {w w' : World} (h : DQ F b l w) (hk : ∀ k, k < w.heap.size → F k → w'.heap[k]? = w.heap[k]?) : DQ F b l w' := by
  obtain ⟨a, n, c, f, xs, h⟩ := h
  exact ⟨a, n, c, f, xs, h.keep hk⟩
theorem DQ.below {F : Nat → Prop} {b : Nat} {l : List El} {w w' : World} (h : DQ F b l w) (e : Below w.heap.size w w') : DQ F b l w' := h.keep fun k hk _ => e.block k hk
theorem DQ.drewN {F : Nat → Prop} {b : Nat} {l : List El} {w : World} (h : DQ F b l w) (m : Nat) : DQ F b l (w.drewN m) := h.keep fun _ _ _ => rfl
theorem DQ.low {F : Nat → Prop} {b : Nat} {l : List El} {w : World} (h : DQ F b l w) : DQ (fun k => F k ∧ k < w.heap.size) b l w := h.mono fun k hk hf => ⟨hf, hk⟩
theorem DQ.up {F : Nat → Prop} {b : Nat} {l : List El} {w : World} (h : DQ F b l w) (w0 : World) : DQ (Gr F w0) b l w := h.mono fun k hk hf => .inl hf
theorem DK.ne {F : Nat → Prop} {b : Nat} {a : Option Addr} {n c f : Nat} {xs l : List El} {w : World} (h : DK F b a n c f xs l w) {g : Nat} {ys : List El} (hr : RowIs w g ys) : b ≠ g := by
  rintro rfl
  have := h.blk
  rw [show w.heap[b]? = _ from hr] at this
  injection this with this
  injection this with _ this
  exact absurd this (by decide)
theorem DK.cell {F : Nat → Prop} {b : Nat} {a : Option Addr} {n c f : Nat} {xs l : List El} {w : World} (h : DK F b a n c f xs l w) (i : Nat) : w.cell? ⟨b, i, none⟩ = (#[.slice a n c, .int .i64 (f : Int), .int .i64 ((f + l.length : Nat) : Int)] : Array Value)[i]? := Lib.cell_of_heap h.blk i
theorem DK.frozen {F : Nat → Prop} {b : Nat} {a : Option Addr} {n c f : Nat} {xs l : List El} {w : World} (h : DK F b a n c f xs l w) (i : Nat) : w.frozen? ⟨b, i, none⟩ = false := Lib.frozen_of_heap h.blk i
/-- the elements where they stand -/
theorem DK.rd {F : Nat → Prop} {b : Nat} {a : Option Addr} {n c f : Nat} {xs l : List El} {w : World} (h : DK F b a n c f xs l w) : Rd F w (ca a c f) l := by
  by_cases q : l = []
  · exact .inl q
  · have hl : 0 < l.length := List.length_pos_iff.2 q
    have h1 := h.fit
    have h2 := h.nc
    rcases h.row with ⟨rfl, rfl⟩ | ⟨g, rfl, hF, hx, hr⟩
    · omega
    · refine .inr ⟨g, 0 + f, ca_some g 0 c f (by omega), hF, fun j x hj => ?_⟩
      rw [hr.cell]
      rw [← h.is, List.getElem?_take] at hj
      split at hj
      · rw [List.getElem?_drop] at hj
        rw [show 0 + f + j = f + j by omega, hj]; rfl
      · cases hj
end Go.Proofs.YtpibeabokedpdaaGreatDoor.DqSBase
end
section
namespace Go.Proofs.YtpibeabokedpdaaGreatDoor.DqSHeld
open Go.RowKit
open Go.Proofs.YtpibeabokedpdaaGreatDoor.DqSBase
open Go.Proofs.YtpibeabokedpdaaGreatDoor.DqBase (Fr Gr ptr hid_of lt_of set_at set_ne size_set row_ne size_row add_off bel_drewN ca ca_some ca_zero cell_lt)
set_option linter.unusedVariables false
set_option linter.unusedSimpArgs false
set_option maxRecDepth 100000 in
theorem held_call {F : Nat → Prop} {b : Nat} {a : Option Addr} {n c f : Nat} {xs l : List El} {w : World} (h : DK F b a n c f xs l w) :
    Calls Tryz.prog 120 #[ptr b] w fun e w' => e = .returned (.slice (ca a c f) l.length (c - f)) ∧ ∃ m, w' = w.drewN m := by
  have c0 : w.cell? ⟨b, 0, none⟩ = some (.slice a n c) := h.cell 0
  have c1 : w.cell? ⟨b, 1, none⟩ = some (.int .i64 (f : Int)) := h.cell 1
  obtain ⟨t, HT⟩ : ∃ t, Hid (t = f + l.length) := ⟨_, hid_of rfl⟩
  have c2 : w.cell? ⟨b, 2, none⟩ = some (.int .i64 (t : Int)) := by rw [HT.out]; exact h.cell 2
  have h1 := h.fit
  have h2 := h.nc
  have hs := cut_any a n c f t (f : Int) (t : Int) rfl rfl (by rw [HT.out]; omega) (by rw [HT.out]; omega)
  have HE := hid_of (show t - f = l.length by rw [HT.out]; omega)
  clear h h1 h2
  go_enter Tryz.func120, Tryz.ntmps120
  go_wp2_with fail
  go_quiet (fail)
  go_wp2_with fail
  go_ret
  refine ⟨by rw [HE.out]; rfl, nq, rfl⟩
theorem held_nil (w : World) : Calls Tryz.prog 120 #[.pointer none] w fun e w' => e = .returned (.slice none 0 0) ∧ w' = w := by
  go_enter Tryz.func120, Tryz.ntmps120
  go_wp2
  go_ret
  exact ⟨rfl, rfl⟩
set_option maxRecDepth 100000 in
theorem len_call {F : Nat → Prop} {b : Nat} {l : List El} {w : World} (h : DQ F b l w) :
    Calls Tryz.prog 71 #[ptr b] w fun e w' => e = .returned (.int .i64 (l.length : Int)) ∧ ∃ m, w' = w.drewN m := by
  obtain ⟨a, n, c, f, xs, h⟩ := h
  have H := hid_of (held_call h)
  clear h
  go_enter Tryz.func71, Tryz.ntmps71
  go_wp2_with fail
  refine H.out.mono ?_
  rintro e w1 ⟨rfl, m, rfl⟩
  go_wp2_with fail
  go_ret
  exact ⟨rfl, m, rfl⟩
theorem len_nil (w : World) : Calls Tryz.prog 71 #[.pointer none] w fun e w' => e = .returned (.int .i64 0) ∧ w' = w := by
  have H := hid_of (held_nil w)
  go_enter Tryz.func71, Tryz.ntmps71
  go_wp2_with fail
  refine H.out.mono ?_
  rintro e w1 ⟨rfl, rfl⟩
  go_wp2_with fail
  go_ret
  exact ⟨rfl, rfl⟩
theorem info9 : (Tryz.prog.info? 9).map (fun i => (i.zero, i.size, i.bytes)) = some (some (V Z), 1, 16) := by kernel_rfl
theorem rd_src {G : Nat → Prop} {w : World} {a : Option Addr} {l : List El} (h : Rd G w a l) (hl : l ≠ []) (c : Nat) : Src Tryz.prog 1 22 (.slice a l.length c) l.length (l.map V) w := by
  rcases h with rfl | ⟨g, o, rfl, _, hc⟩
  · exact absurd rfl hl
  · refine Src.ofSlice (P := Tryz.prog) w Tryz.underlying22 ⟨g, o, none⟩ l.length c (l.map V) (by simp) (fun j u hj => ?_) (fun u hu => by
      obtain ⟨x, _, rfl⟩ := List.mem_map.1 hu
      rfl)
    rw [List.getElem?_map] at hj
    obtain ⟨x, hx, rfl⟩ := Option.map_eq_some_iff.1 hj
    rw [add_off]
    exact hc j x hx
theorem zeros_cells (n : Nat) : Builtin.zeroCells (V Z).cells n = cells (List.replicate n Z) := by
  apply Array.ext'
  rw [show (V Z).cells = #[V Z] from rfl]
  simp [Builtin.zeroCells, cells]
  apply List.ext_getElem
  · simp
  · intro i h1 h2
    simp [Nat.mod_one]
/-- a list appended to nothing -/
theorem app_nil {G : Nat → Prop} {w : World} {a : Option Addr} {l : List El} {c : Nat} (h : Rd G w a l) (hb : l.length * 16 ≤ 140737488355328) (ty : TypeId) :
    ∃ v w', (Builtin.append_ #[22, 22] ty #[.slice none 0 0, .slice a l.length c]).run Tryz.prog w = .ok v w' ∧ NR w.heap.size w' v l ∧ Below w.heap.size w w' := by
  obtain ⟨i, hi, hz0, hz1, hz2⟩ := info_parts info9
  by_cases hl : l = []
  · subst hl
    refine ⟨.slice none 0 0, w, ?_, .inl ⟨rfl, rfl⟩, Below.refl _ _⟩
    cases a with
    | none => simp [Builtin.append_, run_underlying Tryz.underlying22, Builtin.lenOf, Builtin.firstCells, sizeOf, typeInfo, hi]
    | some x =>
      have hl := run_loadCells_list (P := Tryz.prog) w x [] (by simp)
      simp at hl
      simp [Builtin.append_, run_underlying Tryz.underlying22, Builtin.lenOf, Builtin.firstCells, sizeOf, typeInfo, hi, hz1, hl]
  · have hs : Src Tryz.prog i.size 22 (.slice a l.length c) l.length (l.map V) w := by rw [hz1]; exact rd_src h hl c
    have hp : 0 < l.length := List.length_pos_iff.2 hl
    have hr := run_append_grow_src (P := Tryz.prog) w 22 22 ty 9 i (V Z) Tryz.underlying22 hi hz0 none 0 0 [] (by simp [Builtin.firstCells]) (.slice a l.length c) l.length (l.map V) hs (by omega) (by omega) (growslice_fits (by omega) (by rw [hz2]; omega))
    rw [Nat.zero_add, List.nil_append] at hr
    have hge := grownCap_ge w l.length 0 9
    refine ⟨_, _, hr, .inr ⟨w.heap.size, grownCap w l.length 0 9, l ++ List.replicate (grownCap w l.length 0 9 - l.length) Z, rfl, Nat.le_refl _, ?_, by simp; omega, hge, by simp⟩, (Below.refl _ w).drew.alloc (Nat.le_refl _) _⟩
    unfold RowIs
    rw [show w.heap.size = w.drew.heap.size from rfl, heap_alloc_new w.drew, zeros_cells]
    simp [cells]
section
variable {ops : Array Oper} {rest : List Oper} {o : Oper} {a : Act} {Q : Exit → Act → World → Prop}
theorem wpl_eq (hgd : o.guard = none) (s x : Operand) (t tx : TypeId) (ho : o.op = .call { callee := .builtin .append, args := #[s, x], argTypes := #[t, tx] }) (v u v' : Value) (W W' : World) (hs : a.eval s = v) (hx : a.eval x = u)
    (hr : (Builtin.append_ #[t, tx] o.type #[v, u]).run Tryz.prog W = .ok v' W') (hK : wpList Tryz.prog ops Q rest (a.put o.dst v') W') : wpList Tryz.prog ops Q (o :: rest) a W := by
  refine wpList_plain hgd fun K hK2 => ?_
  unfold Oper.wp execOp
  simp only [ho, resolve, invoke, builtin, Sem.run_bind, Sem.run_pure, Result.andThen_ok, List.map_toArray, List.map_cons, List.map_nil, hs, hx, hr]
  exact hK2 _ _ hK
end
set_option maxRecDepth 100000 in
theorem fresh_call {G : Nat → Prop} {w : World} {v : Value} {l : List El} (h : SL G w v l) (hb : l.length * 16 ≤ 140737488355328) :
    Calls Tryz.prog 133 #[v] w fun e w' => ∃ v', e = .returned v' ∧ NR w.heap.size w' v' l ∧ Below w.heap.size w w' := by
  obtain ⟨a, c, rfl, hc, hr⟩ := h
  obtain ⟨v', w', hrun, hn, hbl⟩ := app_nil (c := c) hr hb 22
  have H := hid_of (And.intro hn hbl)
  clear hn hbl hr hb hc
  go_enter Tryz.func133, Tryz.ntmps133
  go_wp2_with (at_builtin; refine wpl_eq rfl _ _ 22 22 rfl (.slice none 0 0) (.slice a l.length c) v' _ w' rfl rfl hrun ?_)
  go_ret
  exact ⟨v', rfl, H.out⟩
end Go.Proofs.YtpibeabokedpdaaGreatDoor.DqSHeld
end
