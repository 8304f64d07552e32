/- The mathematics of places that are found. A list with two ends in memory: its own block, the row of its places; lists that are read; what a call may touch. A list with two ends in memory: its own block, the row of its places; lists that are read; what a call may touch. held, Len, fresh, Of, List. lay, free, Of, List. One element appended to a new row. free, Of, List, PushBack, PushFront. -/
import Derived.Test.YtdmjfmojacnbeaaProg
import Derived.WalkKit
import Derived.WalkSmall
import Derived.WalkLawsBesides
import Derived.WalkSpells
import Derived.BigQuiet
import Derived.BigRegion
import Derived.Below
import Derived.OwnWalk
import Derived.Lib.SliceRun
import Derived.Lib.Builder
import Derived.Laws.OwnMore
import Derived.Laws.CopyRow
import Derived.Deep.LoopGhost
import Derived.Deep.RegionWith
import Derived.Deep.AppendSrc
section
namespace Go.Proofs.Ytdmjfmojacnbeaa.FindMath
variable {α : Type} [DecidableEq α]
/-- the place that is looked at as the k-th -/
def way (n : Nat) (back : Bool) (k : Nat) : Nat := if back then n - 1 - k else k
/-- the places of v among the first m that are looked at -/
def hits (l : List α) (v : α) (back : Bool) (m : Nat) : List Nat := ((List.range m).map (way l.length back)).filter fun i => decide (l[i]? = some v)
def takeC (c : Int) (xs : List Nat) : List Nat := if c < 1 then xs else xs.take c.toNat
def findN (l : List α) (v : α) (r : Nat) (back : Bool) (c : Int) (m : Nat) : List Nat := takeC c ((hits l v back m).drop (r - 1))
theorem hits_zero (l : List α) (v : α) (back : Bool) : hits l v back 0 = [] := rfl
theorem hits_succ (l : List α) (v : α) (back : Bool) (k : Nat) : hits l v back (k + 1) = if l[way l.length back k]? = some v then hits l v back k ++ [way l.length back k] else hits l v back k := by
  unfold hits
  rw [List.range_succ, List.map_append, List.filter_append]
  by_cases h : l[way l.length back k]? = some v
  · rw [if_pos h]; simp [h]
  · rw [if_neg h]; simp [h]
theorem hits_pre (l : List α) (v : α) (back : Bool) (k m : Nat) (h : k ≤ m) : ∃ rest, hits l v back m = hits l v back k ++ rest := by
  induction m with
  | zero => exact ⟨[], by rw [show k = 0 by omega]; rfl⟩
  | succ m ih =>
    by_cases q : k = m + 1
    · subst q; exact ⟨[], by simp⟩
    · obtain ⟨rest, hr⟩ := ih (by omega)
      rw [hits_succ]
      split
      · exact ⟨rest ++ [_], by rw [hr, List.append_assoc]⟩
      · exact ⟨rest, hr⟩
theorem hits_len (l : List α) (v : α) (back : Bool) (m : Nat) : (hits l v back m).length ≤ m := by
  have := List.length_filter_le (fun i => decide (l[i]? = some v)) ((List.range m).map (way l.length back))
  simpa [hits] using this
theorem way_lt {n k : Nat} (back : Bool) (h : k < n) : way n back k < n := by unfold way; split <;> omega
/-- a round that finds nothing -/
theorem no_hit {l : List α} {v : α} {back : Bool} {k : Nat} (h : ¬ l[way l.length back k]? = some v) : hits l v back (k + 1) = hits l v back k := by rw [hits_succ, if_neg h]
theorem hit {l : List α} {v : α} {back : Bool} {k : Nat} (h : l[way l.length back k]? = some v) : hits l v back (k + 1) = hits l v back k ++ [way l.length back k] := by rw [hits_succ, if_pos h]
/-- so many as were asked for have been found -/
theorem full_find {l : List α} {v : α} {back : Bool} {r k m : Nat} {c : Int} (hk : k ≤ m) (hc : 0 < c) (h : (((hits l v back k).drop (r - 1)).length : Int) = c) : (hits l v back k).drop (r - 1) = findN l v r back c m := by
  obtain ⟨rest, hr⟩ := hits_pre l v back k m hk
  unfold findN takeC
  rw [if_neg (by omega), hr]
  have hl : r - 1 ≤ (hits l v back k).length := by
    rw [List.length_drop] at h
    omega
  rw [List.drop_append_of_le_length hl, List.take_append_of_le_length (by omega), List.take_of_length_le (by omega)]
/-- not so many yet -/
theorem less_find {l : List α} {v : α} {back : Bool} {r m : Nat} {c : Int} (h : c < 1 ∨ (((hits l v back m).drop (r - 1)).length : Int) < c) : (hits l v back m).drop (r - 1) = findN l v r back c m := by
  unfold findN takeC
  split
  · rfl
  · rw [List.take_of_length_le (by omega)]
end Go.Proofs.Ytdmjfmojacnbeaa.FindMath
end
section
namespace Go.Proofs.Ytdmjfmojacnbeaa.Base
open Go.RowKit
set_option linter.unusedVariables false
set_option linter.unusedSimpArgs false
abbrev El := Int
abbrev V (x : El) : Value := .int .i64 x
abbrev Z : El := 0
abbrev ptr (b : Nat) : Value := .pointer (some ⟨b, 0, none⟩)
theorem hid_of {p : Prop} (h : p) : Hid p := h
theorem lt_of {w : World} {b : Nat} {o : Obj} (h : w.heap[b]? = some o) : b < w.heap.size := (Array.getElem?_eq_some_iff.1 h).1
theorem set_at {w : World} {b i : Nat} {cs : Array Value} {ty : TypeId} {fz : Nat × Nat} (h : w.heap[b]? = some (.cells cs ty fz)) (v : Value) : (w.setCell ⟨b, i, none⟩ v).heap[b]? = some (.cells (cs.setIfInBounds i v) ty fz) := by
  rw [setCell_eq_setRow w b i cs ty fz v h]
  exact setRow_heap w b cs _ ty _ h
theorem set_ne {w : World} {b i k : Nat} (h : k ≠ b) (v : Value) : (w.setCell ⟨b, i, none⟩ v).heap[k]? = w.heap[k]? := Below.heap_setCell _ _ _ _ h
theorem size_set {w : World} (p : Addr) (v : Value) : (w.setCell p v).heap.size = w.heap.size := by simp [World.setCell]
theorem row_ne {w : World} {g k : Nat} {cs : Array Value} (h : k ≠ g) : (w.setRow g cs).heap[k]? = w.heap[k]? := by
  unfold World.setRow
  simp [Array.getElem?_modify, Ne.symm h]
theorem size_row {w : World} {g : Nat} {cs : Array Value} : (w.setRow g cs).heap.size = w.heap.size := by
  unfold World.setRow
  simp
theorem add_off (g o k : Nat) : (⟨g, o, none⟩ : Addr).add k = ⟨g, o + k, none⟩ := Addr.add_lit g o k

/- what a call may touch -/
structure Fr (F : Nat → Prop) (w w' : World) : Prop where
  os : w'.os = w.os
  tape : w'.tape = w.tape
  output : w'.output = w.output
  size : w.heap.size ≤ w'.heap.size
  block : ∀ k, k < w.heap.size → ¬ F k → w'.heap[k]? = w.heap[k]?
def Gr (F : Nat → Prop) (w : World) : Nat → Prop := fun k => F k ∨ w.heap.size ≤ k
theorem Fr.refl (F : Nat → Prop) (w : World) : Fr F w w := ⟨rfl, rfl, rfl, Nat.le_refl _, fun _ _ _ => rfl⟩
theorem Fr.trans {F : Nat → Prop} {a b c : World} (h : Fr F a b) (k : Fr (Gr F a) b c) : Fr F a c :=
  ⟨k.os.trans h.os, k.tape.trans h.tape, k.output.trans h.output, Nat.le_trans h.size k.size, fun i hi hn => (k.block i (Nat.lt_of_lt_of_le hi h.size) (fun e => by
    rcases e with e | e
    · exact hn e
    · omega)).trans (h.block i hi hn)⟩
theorem Fr.mono {F G : Nat → Prop} {a b : World} (h : Fr F a b) (hG : ∀ k, k < a.heap.size → F k → G k) : Fr G a b := ⟨h.os, h.tape, h.output, h.size, fun k hk hn => h.block k hk (fun e => hn (hG k hk e))⟩
theorem Fr.of_below {F : Nat → Prop} {a b : World} (h : Below a.heap.size a b) : Fr F a b := ⟨h.os, h.tape, h.output, h.size, fun k hk _ => h.block k hk⟩
theorem Fr.below {F : Nat → Prop} {a b : World} (h : Fr F a b) {base : Nat} (hb : base ≤ a.heap.size) (hF : ∀ k, F k → base ≤ k) : Below base a b := ⟨h.os, h.tape, h.output, h.size, fun k hk => h.block k (by omega) (fun e => by have := hF k e; omega)⟩
theorem Fr.alloc {F : Nat → Prop} {a b : World} (h : Fr F a b) (o : Obj) : Fr F a (b.alloc o) := h.trans (Fr.of_below ((Below.refl _ b).alloc (Nat.le_refl _) o))
theorem Fr.drew {F : Nat → Prop} {a b : World} (h : Fr F a b) : Fr F a b.drew := ⟨h.os, h.tape, h.output, h.size, h.block⟩
theorem Fr.drewN {F : Nat → Prop} {a b : World} (h : Fr F a b) (n : Nat) : Fr F a (b.drewN n) := ⟨h.os, h.tape, h.output, h.size, h.block⟩
theorem Fr.set {F : Nat → Prop} {w : World} {f i : Nat} (hF : F f) (v : Value) : Fr F w (w.setCell ⟨f, i, none⟩ v) := by
  have e0 : Below 0 w (w.setCell ⟨f, i, none⟩ v) := (Below.refl 0 w).setCell (Nat.zero_le _) v
  exact ⟨e0.os, e0.tape, e0.output, e0.size, fun k hk hn => set_ne (fun e => hn (by rw [e]; exact hF)) v⟩
theorem Fr.row {F : Nat → Prop} {w : World} {g : Nat} (hF : F g) (cs : Array Value) : Fr F w (w.setRow g cs) :=
  ⟨rfl, rfl, rfl, by rw [size_row]; exact Nat.le_refl _, fun k hk hn => row_ne (fun e => hn (by rw [e]; exact hF))⟩
theorem bel_drewN (w : World) (n : Nat) : Below w.heap.size w (w.drewN n) := ⟨rfl, rfl, rfl, Nat.le_refl _, fun _ _ => rfl⟩

/- a row of elements fills a block -/
def cells (xs : List El) : Array Value := (xs.map V).toArray
theorem cells_size (xs : List El) : (cells xs).size = xs.length := by simp [cells]
theorem cells_get (xs : List El) (j : Nat) : (cells xs)[j]? = xs[j]?.map V := by simp [cells]
def RowIs (w : World) (g : Nat) (xs : List El) : Prop := w.heap[g]? = some (.cells (cells xs) 3 (0, 0))
theorem RowIs.cell {w : World} {g : Nat} {xs : List El} (h : RowIs w g xs) (j : Nat) : w.cell? ⟨g, j, none⟩ = xs[j]?.map V := by
  rw [Lib.cell_of_heap h, cells_get]
theorem RowIs.frozen {w : World} {g : Nat} {xs : List El} (h : RowIs w g xs) (j : Nat) : w.frozen? ⟨g, j, none⟩ = false := Lib.frozen_of_heap h j
theorem RowIs.lt {w : World} {g : Nat} {xs : List El} (h : RowIs w g xs) : g < w.heap.size := lt_of h
theorem RowIs.drewN {w : World} {g : Nat} {xs : List El} (h : RowIs w g xs) (n : Nat) : RowIs (w.drewN n) g xs := h
theorem RowIs.set {w : World} {g : Nat} {xs : List El} (h : RowIs w g xs) (i : Nat) (x : El) : RowIs (w.setCell ⟨g, i, none⟩ (V x)) g (xs.set i x) := by
  unfold RowIs
  rw [set_at h]
  simp [cells, List.map_set]
/-- cs laid over xs from o on -/
def lay (xs : List El) (o : Nat) (cs : List El) : List El := xs.take o ++ cs ++ xs.drop (o + cs.length)
theorem lay_len {xs : List El} {o : Nat} {cs : List El} (h : o + cs.length ≤ xs.length) : (lay xs o cs).length = xs.length := by simp [lay]; omega
theorem lay_nil (xs : List El) (o : Nat) : lay xs o [] = xs := by simp [lay]
theorem RowIs.lay {w : World} {g : Nat} {xs : List El} (h : RowIs w g xs) (o : Nat) (cs : List El) : RowIs (w.setRow g ((cells xs).toList.take o ++ cs.map V ++ (cells xs).toList.drop (o + (cs.map V).length)).toArray) g (lay xs o cs) := by
  unfold RowIs
  rw [setRow_heap w g (cells xs) _ 3 (0, 0) h]
  simp [cells, Base.lay, List.map_take, List.map_drop]

/- a slice: its address, its length and its room -/
def ca (a : Option Addr) (c i : Nat) : Option Addr := if c = i then a else a.map (·.add i)
theorem ca_some (g o c i : Nat) (h : i < c) : ca (some ⟨g, o, none⟩) c i = some ⟨g, o + i, none⟩ := by
  unfold ca
  rw [if_neg (by omega)]
  simp [add_off]
theorem ca_zero (a : Option Addr) (c : Nat) : ca a c 0 = a := by
  unfold ca
  by_cases h : c = 0
  · rw [if_pos h]
  · rw [if_neg h]
    cases a with
    | none => rfl
    | some a => simp [Addr.add]
theorem size3 (w : World) : (Go.sizeOf 3).run Try.prog w = .ok 1 w := by kernel_rfl
theorem cut_any (a : Option Addr) (n c i j : Nat) (x y : Int) (hx : x = i) (hy : y = j) (hij : i ≤ j) (hj : j ≤ c) (w : World) :
    (Instr.slice 22 (.slice a n c) (some (.int .i64 x)) (some (.int .i64 y)) none).run Try.prog w = .ok (.slice (ca a c i) (j - i) (c - i)) w := by
  subst hx; subst hy
  have h1 : (i : Int) ≤ j := by omega
  have h2 : (j : Int) ≤ c := by omega
  simp [Instr.slice, run_underlying Try.underlying22, Instr.sliceBounds, run_sliceBound, size3, ca, h1, h2]
theorem cut_lo (a : Option Addr) (n c i : Nat) (x : Int) (hx : x = i) (hi : i ≤ n) (w : World) :
    (Instr.slice 22 (.slice a n c) (some (.int .i64 x)) none none).run Try.prog w = .ok (.slice (ca a c i) (n - i) (c - i)) w := by
  subst hx
  have h1 : (i : Int) ≤ n := by omega
  simp [Instr.slice, run_underlying Try.underlying22, Instr.sliceBounds, run_sliceBound, size3, ca, h1]
theorem cut_hi (a : Option Addr) (n c j : Nat) (y : Int) (hy : y = j) (hj : j ≤ c) (w : World) :
    (Instr.slice 22 (.slice a n c) none (some (.int .i64 y)) none).run Try.prog w = .ok (.slice a j c) w := by
  subst hy
  have h2 : (j : Int) ≤ c := by omega
  have := ca_zero a c
  unfold ca at this
  simp [Instr.slice, run_underlying Try.underlying22, Instr.sliceBounds, run_sliceBound, size3, h2, this]

/-- behind the address a lie the elements l, in a block of which G holds -/
def Rd (G : Nat → Prop) (w : World) (a : Option Addr) (l : List El) : Prop := l = [] ∨ ∃ g o, a = some ⟨g, o, none⟩ ∧ G g ∧ ∀ j x, l[j]? = some x → w.cell? ⟨g, o + j, none⟩ = some (V x)
def SL (G : Nat → Prop) (w : World) (v : Value) (l : List El) : Prop := ∃ a c, v = .slice a l.length c ∧ l.length ≤ c ∧ Rd G w a l
theorem cell_lt {w : World} {p : Addr} {v : Value} (h : w.cell? p = some v) : p.block < w.heap.size := block_lt_of_cell h
theorem Rd.lt {G : Nat → Prop} {w : World} {a : Option Addr} {l : List El} (h : Rd G w a l) : Rd (fun k => G k ∧ k < w.heap.size) w a l := by
  rcases h with rfl | ⟨g, o, rfl, hG, hc⟩
  · exact .inl rfl
  · cases l with
    | nil => exact .inl rfl
    | cons x r => exact .inr ⟨g, o, rfl, ⟨hG, cell_lt (hc 0 x rfl)⟩, hc⟩
theorem Rd.mono {G G' : Nat → Prop} {w : World} {a : Option Addr} {l : List El} (h : Rd G w a l) (hG : ∀ k, k < w.heap.size → G k → G' k) : Rd G' w a l := by
  rcases h.lt with rfl | ⟨g, o, rfl, hg, hc⟩
  · exact .inl rfl
  · exact .inr ⟨g, o, rfl, hG g hg.2 hg.1, hc⟩
theorem Rd.keep {G : Nat → Prop} {w w' : World} {a : Option Addr} {l : List El} (h : Rd G w a l) (hk : ∀ k, k < w.heap.size → G k → w'.heap[k]? = w.heap[k]?) : Rd G w' a l := by
  rcases h.lt with rfl | ⟨g, o, rfl, hg, hc⟩
  · exact .inl rfl
  · exact .inr ⟨g, o, rfl, hg.1, fun j x hj => (World.cell?_of_block (w := w) (hk g hg.2 hg.1)).trans (hc j x hj)⟩
theorem Rd.take {G : Nat → Prop} {w : World} {a : Option Addr} {l : List El} (h : Rd G w a l) (k : Nat) : Rd G w a (l.take k) := by
  rcases h with rfl | ⟨g, o, rfl, hg, hc⟩
  · exact .inl (by simp)
  · exact .inr ⟨g, o, rfl, hg, fun j x hj => hc j x (by
      rw [List.getElem?_take] at hj
      split at hj
      · exact hj
      · cases hj)⟩
theorem Rd.drop {G : Nat → Prop} {w : World} {a : Option Addr} {l : List El} (h : Rd G w a l) {c : Nat} (hc : l.length ≤ c) (i : Nat) : Rd G w (ca a c i) (l.drop i) := by
  by_cases q : l.length ≤ i
  · exact .inl (List.drop_eq_nil_of_le q)
  · rcases h with rfl | ⟨g, o, rfl, hg, hr⟩
    · exact .inl (by simp)
    · refine .inr ⟨g, o + i, ca_some g o c i (by omega), hg, fun j x hj => ?_⟩
      rw [List.getElem?_drop] at hj
      have := hr _ x hj
      rwa [show o + (i + j) = o + i + j by omega] at this
theorem SL.mono {G G' : Nat → Prop} {w : World} {v : Value} {l : List El} (h : SL G w v l) (hG : ∀ k, k < w.heap.size → G k → G' k) : SL G' w v l := by
  obtain ⟨a, c, rfl, hc, hr⟩ := h
  exact ⟨a, c, rfl, hc, hr.mono hG⟩
theorem SL.keep {G : Nat → Prop} {w w' : World} {v : Value} {l : List El} (h : SL G w v l) (hk : ∀ k, k < w.heap.size → G k → w'.heap[k]? = w.heap[k]?) : SL G w' v l := by
  obtain ⟨a, c, rfl, hc, hr⟩ := h
  exact ⟨a, c, rfl, hc, hr.keep hk⟩
theorem SL.below {G : Nat → Prop} {w w' : World} {v : Value} {l : List El} (h : SL G w v l) (b : Below w.heap.size w w') : SL G w' v l := h.keep fun k hk _ => b.block k hk
theorem SL.drewN {G : Nat → Prop} {w : World} {v : Value} {l : List El} (h : SL G w v l) (n : Nat) : SL G (w.drewN n) v l := h.keep fun _ _ _ => rfl
theorem SL.fr {F : Nat → Prop} {w w' : World} {v : Value} {l : List El} (h : SL (fun k => ¬ F k) w v l) (f : Fr F w w') : SL (fun k => ¬ Gr F w k) w' v l := by
  obtain ⟨a, c, rfl, hc, hr⟩ := h
  refine ⟨a, c, rfl, hc, (hr.lt.keep fun k hk hn => f.block k hk hn.1).mono fun k _ hn e => ?_⟩
  rcases e with e | e
  · exact hn.1 e
  · exact absurd hn.2 (by omega)
theorem SL.nil (G : Nat → Prop) (w : World) : SL G w (.slice none 0 0) [] := ⟨none, 0, rfl, Nat.le_refl _, .inl rfl⟩

/-- a new row from block B on that reads as l -/
def NR (B : Nat) (w : World) (v : Value) (l : List El) : Prop := (v = .slice none 0 0 ∧ l = []) ∨ ∃ g c xs, v = .slice (some ⟨g, 0, none⟩) l.length c ∧ B ≤ g ∧ RowIs w g xs ∧ xs.length = c ∧ l.length ≤ c ∧ xs.take l.length = l
theorem NR.sl {B : Nat} {w : World} {v : Value} {l : List El} (h : NR B w v l) : SL (fun k => B ≤ k) w v l := by
  rcases h with ⟨rfl, rfl⟩ | ⟨g, c, xs, rfl, hB, hr, hx, hl, ht⟩
  · exact SL.nil _ _
  · refine ⟨_, _, rfl, hl, .inr ⟨g, 0, rfl, hB, fun j x hj => ?_⟩⟩
    rw [hr.cell, Nat.zero_add]
    rw [← ht, List.getElem?_take] at hj
    split at hj
    · rw [hj]; rfl
    · cases hj
theorem NR.keep {B : Nat} {w w' : World} {v : Value} {l : List El} (h : NR B w v l) (hk : ∀ k, k < w.heap.size → B ≤ k → w'.heap[k]? = w.heap[k]?) : NR B w' v l := by
  rcases h with h | ⟨g, c, xs, rfl, hB, hr, hx, hl, ht⟩
  · exact .inl h
  · exact .inr ⟨g, c, xs, rfl, hB, (hk g hr.lt hB).trans hr, hx, hl, ht⟩
theorem NR.below {B : Nat} {w w' : World} {v : Value} {l : List El} (h : NR B w v l) (b : Below w.heap.size w w') : NR B w' v l := h.keep fun k hk _ => b.block k hk
theorem NR.mono {B B' : Nat} {w : World} {v : Value} {l : List El} (h : NR B w v l) (hB : B' ≤ B) : NR B' w v l := by
  rcases h with h | ⟨g, c, xs, rfl, hb, r⟩
  · exact .inl h
  · exact .inr ⟨g, c, xs, rfl, Nat.le_trans hB hb, r⟩

/- the list itself -/
structure DK (F : Nat → Prop) (b : Nat) (a : Option Addr) (n c f : Nat) (xs l : List El) (w : World) : Prop where
  blk : w.heap[b]? = some (.cells #[.slice a n c, .int .i64 (f : Int), .int .i64 ((f + l.length : Nat) : Int)] 72 (0, 0))
  own : F b
  fit : f + l.length ≤ n
  nc : n ≤ c
  lim : n ≤ 35184372088832
  row : (a = none ∧ c = 0) ∨ ∃ g, a = some ⟨g, 0, none⟩ ∧ F g ∧ xs.length = c ∧ RowIs w g xs
  is : (xs.drop f).take l.length = l
def DQ (F : Nat → Prop) (b : Nat) (l : List El) (w : World) : Prop := ∃ a n c f xs, DK F b a n c f xs l w
theorem DK.mono {F G : Nat → Prop} {b : Nat} {a : Option Addr} {n c f : Nat} {xs l : List El} {w : World} (h : DK F b a n c f xs l w) (hG : ∀ k, k < w.heap.size → F k → G k) : DK G b a n c f xs l w := by
  refine ⟨h.blk, hG _ (lt_of h.blk) h.own, h.fit, h.nc, h.lim, ?_, h.is⟩
  rcases h.row with r | ⟨g, e, hF, hx, hr⟩
  · exact .inl r
  · exact .inr ⟨g, e, hG g hr.lt hF, hx, hr⟩
theorem DK.keep {F : Nat → Prop} {b : Nat} {a : Option Addr} {n c f : Nat} {xs l : List El} {w w' : World} (h : DK F b a n c f xs l w) (hk : ∀ k, k < w.heap.size → F k → w'.heap[k]? = w.heap[k]?) : DK F b a n c f xs l w' := by
  refine ⟨(hk b (lt_of h.blk) h.own).trans h.blk, h.own, h.fit, h.nc, h.lim, ?_, h.is⟩
  rcases h.row with r | ⟨g, e, hF, hx, hr⟩
  · exact .inl r
  · exact .inr ⟨g, e, hF, hx, (hk g hr.lt hF).trans hr⟩
theorem DQ.mono {F G : Nat → Prop} {b : Nat} {l : List El} {w : World} (h : DQ F b l w) (hG : ∀ k, k < w.heap.size → F k → G k) : DQ G b l w := by
  obtain ⟨a, n, c, f, xs, h⟩ := h
  exact ⟨a, n, c, f, xs, h.mono hG⟩
theorem DQ.keep {F : Nat → Prop} {b : Nat} {l : List El} {w w' : World} (h : DQ F b l w) (hk : ∀ k, k < w.heap.size → F k → w'.heap[k]? = w.heap[k]?) : DQ F b l w' := by
  obtain ⟨a, n, c, f, xs, h⟩ := h
  exact ⟨a, n, c, f, xs, h.keep hk⟩
theorem DQ.below {F : Nat → Prop} {b : Nat} {l : List El} {w w' : World} (h : DQ F b l w) (e : Below w.heap.size w w') : DQ F b l w' := h.keep fun k hk _ => e.block k hk
theorem DQ.drewN {F : Nat → Prop} {b : Nat} {l : List El} {w : World} (h : DQ F b l w) (m : Nat) : DQ F b l (w.drewN m) := h.keep fun _ _ _ => rfl
theorem DQ.low {F : Nat → Prop} {b : Nat} {l : List El} {w : World} (h : DQ F b l w) : DQ (fun k => F k ∧ k < w.heap.size) b l w := h.mono fun k hk hf => ⟨hf, hk⟩
theorem DQ.up {F : Nat → Prop} {b : Nat} {l : List El} {w : World} (h : DQ F b l w) (w0 : World) : DQ (Gr F w0) b l w := h.mono fun k hk hf => .inl hf
theorem DK.ne {F : Nat → Prop} {b : Nat} {a : Option Addr} {n c f : Nat} {xs l : List El} {w : World} (h : DK F b a n c f xs l w) {g : Nat} {ys : List El} (hr : RowIs w g ys) : b ≠ g := by
  rintro rfl
  have := h.blk
  rw [show w.heap[b]? = _ from hr] at this
  injection this with this
  injection this with _ this
  exact absurd this (by decide)
theorem DK.cell {F : Nat → Prop} {b : Nat} {a : Option Addr} {n c f : Nat} {xs l : List El} {w : World} (h : DK F b a n c f xs l w) (i : Nat) : w.cell? ⟨b, i, none⟩ = (#[.slice a n c, .int .i64 (f : Int), .int .i64 ((f + l.length : Nat) : Int)] : Array Value)[i]? := Lib.cell_of_heap h.blk i
theorem DK.frozen {F : Nat → Prop} {b : Nat} {a : Option Addr} {n c f : Nat} {xs l : List El} {w : World} (h : DK F b a n c f xs l w) (i : Nat) : w.frozen? ⟨b, i, none⟩ = false := Lib.frozen_of_heap h.blk i
/-- the elements where they stand -/
theorem DK.rd {F : Nat → Prop} {b : Nat} {a : Option Addr} {n c f : Nat} {xs l : List El} {w : World} (h : DK F b a n c f xs l w) : Rd F w (ca a c f) l := by
  by_cases q : l = []
  · exact .inl q
  · have hl : 0 < l.length := List.length_pos_iff.2 q
    have h1 := h.fit
    have h2 := h.nc
    rcases h.row with ⟨rfl, rfl⟩ | ⟨g, rfl, hF, hx, hr⟩
    · omega
    · refine .inr ⟨g, 0 + f, ca_some g 0 c f (by omega), hF, fun j x hj => ?_⟩
      rw [hr.cell]
      rw [← h.is, List.getElem?_take] at hj
      split at hj
      · rw [List.getElem?_drop] at hj
        rw [show 0 + f + j = f + j by omega, hj]; rfl
      · cases hj
end Go.Proofs.Ytdmjfmojacnbeaa.Base
end
section
namespace Go.Proofs.Ytdmjfmojacnbeaa.SBase
open Go.RowKit
open Go.Proofs.Ytdmjfmojacnbeaa.Base (Fr Gr ptr hid_of lt_of set_at set_ne size_set row_ne size_row add_off bel_drewN ca ca_some ca_zero cell_lt)
set_option linter.unusedVariables false
set_option linter.unusedSimpArgs false
abbrev El := ByteArray
abbrev V (x : El) : Value := .string x
abbrev Z : El := ⟨#[]⟩
instance : LawfulBEq ByteArray where
  eq_of_beq {a b} h := by
    cases a; cases b
    have h : ByteArray.beq _ _ = true := h
    simpa [ByteArray.beq] using h
  rfl {a} := by
    cases a
    show ByteArray.beq _ _ = true
    simp [ByteArray.beq]
/- a row of elements fills a block -/
def cells (xs : List El) : Array Value := (xs.map V).toArray
theorem cells_size (xs : List El) : (cells xs).size = xs.length := by simp [cells]
theorem cells_get (xs : List El) (j : Nat) : (cells xs)[j]? = xs[j]?.map V := by simp [cells]
def RowIs (w : World) (g : Nat) (xs : List El) : Prop := w.heap[g]? = some (.cells (cells xs) 9 (0, 0))
theorem RowIs.cell {w : World} {g : Nat} {xs : List El} (h : RowIs w g xs) (j : Nat) : w.cell? ⟨g, j, none⟩ = xs[j]?.map V := by
  rw [Lib.cell_of_heap h, cells_get]
theorem RowIs.frozen {w : World} {g : Nat} {xs : List El} (h : RowIs w g xs) (j : Nat) : w.frozen? ⟨g, j, none⟩ = false := Lib.frozen_of_heap h j
theorem RowIs.lt {w : World} {g : Nat} {xs : List El} (h : RowIs w g xs) : g < w.heap.size := lt_of h
theorem RowIs.drewN {w : World} {g : Nat} {xs : List El} (h : RowIs w g xs) (n : Nat) : RowIs (w.drewN n) g xs := h
theorem RowIs.set {w : World} {g : Nat} {xs : List El} (h : RowIs w g xs) (i : Nat) (x : El) : RowIs (w.setCell ⟨g, i, none⟩ (V x)) g (xs.set i x) := by
  unfold RowIs
  rw [set_at h]
  simp [cells, List.map_set]
/-- cs laid over xs from o on -/
def lay (xs : List El) (o : Nat) (cs : List El) : List El := xs.take o ++ cs ++ xs.drop (o + cs.length)
theorem lay_len {xs : List El} {o : Nat} {cs : List El} (h : o + cs.length ≤ xs.length) : (lay xs o cs).length = xs.length := by simp [lay]; omega
theorem lay_nil (xs : List El) (o : Nat) : lay xs o [] = xs := by simp [lay]
theorem RowIs.lay {w : World} {g : Nat} {xs : List El} (h : RowIs w g xs) (o : Nat) (cs : List El) : RowIs (w.setRow g ((cells xs).toList.take o ++ cs.map V ++ (cells xs).toList.drop (o + (cs.map V).length)).toArray) g (lay xs o cs) := by
  unfold RowIs
  rw [setRow_heap w g (cells xs) _ 9 (0, 0) h]
  simp [cells, SBase.lay, List.map_take, List.map_drop]

/- a slice: its address, its length and its room -/
theorem size9 (w : World) : (Go.sizeOf 9).run Try.prog w = .ok 1 w := by kernel_rfl
theorem cut_any (a : Option Addr) (n c i j : Nat) (x y : Int) (hx : x = i) (hy : y = j) (hij : i ≤ j) (hj : j ≤ c) (w : World) :
    (Instr.slice 37 (.slice a n c) (some (.int .i64 x)) (some (.int .i64 y)) none).run Try.prog w = .ok (.slice (ca a c i) (j - i) (c - i)) w := by
  subst hx; subst hy
  have h1 : (i : Int) ≤ j := by omega
  have h2 : (j : Int) ≤ c := by omega
  simp [Instr.slice, run_underlying Try.underlying37, Instr.sliceBounds, run_sliceBound, size9, ca, h1, h2]
theorem cut_lo (a : Option Addr) (n c i : Nat) (x : Int) (hx : x = i) (hi : i ≤ n) (w : World) :
    (Instr.slice 37 (.slice a n c) (some (.int .i64 x)) none none).run Try.prog w = .ok (.slice (ca a c i) (n - i) (c - i)) w := by
  subst hx
  have h1 : (i : Int) ≤ n := by omega
  simp [Instr.slice, run_underlying Try.underlying37, Instr.sliceBounds, run_sliceBound, size9, ca, h1]
theorem cut_hi (a : Option Addr) (n c j : Nat) (y : Int) (hy : y = j) (hj : j ≤ c) (w : World) :
    (Instr.slice 37 (.slice a n c) none (some (.int .i64 y)) none).run Try.prog w = .ok (.slice a j c) w := by
  subst hy
  have h2 : (j : Int) ≤ c := by omega
  have := ca_zero a c
  unfold ca at this
  simp [Instr.slice, run_underlying Try.underlying37, Instr.sliceBounds, run_sliceBound, size9, h2, this]

/-- behind the address a lie the elements l, in a block of which G holds -/
def Rd (G : Nat → Prop) (w : World) (a : Option Addr) (l : List El) : Prop := l = [] ∨ ∃ g o, a = some ⟨g, o, none⟩ ∧ G g ∧ ∀ j x, l[j]? = some x → w.cell? ⟨g, o + j, none⟩ = some (V x)
def SL (G : Nat → Prop) (w : World) (v : Value) (l : List El) : Prop := ∃ a c, v = .slice a l.length c ∧ l.length ≤ c ∧ Rd G w a l
theorem Rd.lt {G : Nat → Prop} {w : World} {a : Option Addr} {l : List El} (h : Rd G w a l) : Rd (fun k => G k ∧ k < w.heap.size) w a l := by
  rcases h with rfl | ⟨g, o, rfl, hG, hc⟩
  · exact .inl rfl
  · cases l with
    | nil => exact .inl rfl
    | cons x r => exact .inr ⟨g, o, rfl, ⟨hG, cell_lt (hc 0 x rfl)⟩, hc⟩
theorem Rd.mono {G G' : Nat → Prop} {w : World} {a : Option Addr} {l : List El} (h : Rd G w a l) (hG : ∀ k, k < w.heap.size → G k → G' k) : Rd G' w a l := by
  rcases h.lt with rfl | ⟨g, o, rfl, hg, hc⟩
  · exact .inl rfl
  · exact .inr ⟨g, o, rfl, hG g hg.2 hg.1, hc⟩
theorem Rd.keep {G : Nat → Prop} {w w' : World} {a : Option Addr} {l : List El} (h : Rd G w a l) (hk : ∀ k, k < w.heap.size → G k → w'.heap[k]? = w.heap[k]?) : Rd G w' a l := by
  rcases h.lt with rfl | ⟨g, o, rfl, hg, hc⟩
  · exact .inl rfl
  · exact .inr ⟨g, o, rfl, hg.1, fun j x hj => (World.cell?_of_block (w := w) (hk g hg.2 hg.1)).trans (hc j x hj)⟩
theorem Rd.take {G : Nat → Prop} {w : World} {a : Option Addr} {l : List El} (h : Rd G w a l) (k : Nat) : Rd G w a (l.take k) := by
  rcases h with rfl | ⟨g, o, rfl, hg, hc⟩
  · exact .inl (by simp)
  · exact .inr ⟨g, o, rfl, hg, fun j x hj => hc j x (by
      rw [List.getElem?_take] at hj
      split at hj
      · exact hj
      · cases hj)⟩
theorem Rd.drop {G : Nat → Prop} {w : World} {a : Option Addr} {l : List El} (h : Rd G w a l) {c : Nat} (hc : l.length ≤ c) (i : Nat) : Rd G w (ca a c i) (l.drop i) := by
  by_cases q : l.length ≤ i
  · exact .inl (List.drop_eq_nil_of_le q)
  · rcases h with rfl | ⟨g, o, rfl, hg, hr⟩
    · exact .inl (by simp)
    · refine .inr ⟨g, o + i, ca_some g o c i (by omega), hg, fun j x hj => ?_⟩
      rw [List.getElem?_drop] at hj
      have := hr _ x hj
      rwa [show o + (i + j) = o + i + j by omega] at this
theorem SL.mono {G G' : Nat → Prop} {w : World} {v : Value} {l : List El} (h : SL G w v l) (hG : ∀ k, k < w.heap.size → G k → G' k) : SL G' w v l := by
  obtain ⟨a, c, rfl, hc, hr⟩ := h
  exact ⟨a, c, rfl, hc, hr.mono hG⟩
theorem SL.keep {G : Nat → Prop} {w w' : World} {v : Value} {l : List El} (h : SL G w v l) (hk : ∀ k, k < w.heap.size → G k → w'.heap[k]? = w.heap[k]?) : SL G w' v l := by
  obtain ⟨a, c, rfl, hc, hr⟩ := h
  exact ⟨a, c, rfl, hc, hr.keep hk⟩
theorem SL.below {G : Nat → Prop} {w w' : World} {v : Value} {l : List El} (h : SL G w v l) (b : Below w.heap.size w w') : SL G w' v l := h.keep fun k hk _ => b.block k hk
theorem SL.drewN {G : Nat → Prop} {w : World} {v : Value} {l : List El} (h : SL G w v l) (n : Nat) : SL G (w.drewN n) v l := h.keep fun _ _ _ => rfl
theorem SL.fr {F : Nat → Prop} {w w' : World} {v : Value} {l : List El} (h : SL (fun k => ¬ F k) w v l) (f : Fr F w w') : SL (fun k => ¬ Gr F w k) w' v l := by
  obtain ⟨a, c, rfl, hc, hr⟩ := h
  refine ⟨a, c, rfl, hc, (hr.lt.keep fun k hk hn => f.block k hk hn.1).mono fun k _ hn e => ?_⟩
  rcases e with e | e
  · exact hn.1 e
  · exact absurd hn.2 (by omega)
theorem SL.nil (G : Nat → Prop) (w : World) : SL G w (.slice none 0 0) [] := ⟨none, 0, rfl, Nat.le_refl _, .inl rfl⟩

/-- a new row from block B on that reads as l -/
def NR (B : Nat) (w : World) (v : Value) (l : List El) : Prop := (v = .slice none 0 0 ∧ l = []) ∨ ∃ g c xs, v = .slice (some ⟨g, 0, none⟩) l.length c ∧ B ≤ g ∧ RowIs w g xs ∧ xs.length = c ∧ l.length ≤ c ∧ xs.take l.length = l
theorem NR.sl {B : Nat} {w : World} {v : Value} {l : List El} (h : NR B w v l) : SL (fun k => B ≤ k) w v l := by
  rcases h with ⟨rfl, rfl⟩ | ⟨g, c, xs, rfl, hB, hr, hx, hl, ht⟩
  · exact SL.nil _ _
  · refine ⟨_, _, rfl, hl, .inr ⟨g, 0, rfl, hB, fun j x hj => ?_⟩⟩
    rw [hr.cell, Nat.zero_add]
    rw [← ht, List.getElem?_take] at hj
    split at hj
    · rw [hj]; rfl
    · cases hj
theorem NR.keep {B : Nat} {w w' : World} {v : Value} {l : List El} (h : NR B w v l) (hk : ∀ k, k < w.heap.size → B ≤ k → w'.heap[k]? = w.heap[k]?) : NR B w' v l := by
  rcases h with h | ⟨g, c, xs, rfl, hB, hr, hx, hl, ht⟩
  · exact .inl h
  · exact .inr ⟨g, c, xs, rfl, hB, (hk g hr.lt hB).trans hr, hx, hl, ht⟩
theorem NR.below {B : Nat} {w w' : World} {v : Value} {l : List El} (h : NR B w v l) (b : Below w.heap.size w w') : NR B w' v l := h.keep fun k hk _ => b.block k hk
theorem NR.mono {B B' : Nat} {w : World} {v : Value} {l : List El} (h : NR B w v l) (hB : B' ≤ B) : NR B' w v l := by
  rcases h with h | ⟨g, c, xs, rfl, hb, r⟩
  · exact .inl h
  · exact .inr ⟨g, c, xs, rfl, Nat.le_trans hB hb, r⟩

/- the list itself -/
structure DK (F : Nat → Prop) (b : Nat) (a : Option Addr) (n c f : Nat) (xs l : List El) (w : World) : Prop where
  blk : w.heap[b]? = some (.cells #[.slice a n c, .int .i64 (f : Int), .int .i64 ((f + l.length : Nat) : Int)] 78 (0, 0))
  own : F b
  fit : f + l.length ≤ n
  nc : n ≤ c
  lim : n ≤ 35184372088832
  row : (a = none ∧ c = 0) ∨ ∃ g, a = some ⟨g, 0, none⟩ ∧ F g ∧ xs.length = c ∧ RowIs w g xs
  is : (xs.drop f).take l.length = l
def DQ (F : Nat → Prop) (b : Nat) (l : List El) (w : World) : Prop := ∃ a n c f xs, DK F b a n c f xs l w
theorem DK.mono {F G : Nat → Prop} {b : Nat} {a : Option Addr} {n c f : Nat} {xs l : List El} {w : World} (h : DK F b a n c f xs l w) (hG : ∀ k, k < w.heap.size → F k → G k) : DK G b a n c f xs l w := by
  refine ⟨h.blk, hG _ (lt_of h.blk) h.own, h.fit, h.nc, h.lim, ?_, h.is⟩
  rcases h.row with r | ⟨g, e, hF, hx, hr⟩
  · exact .inl r
  · exact .inr ⟨g, e, hG g hr.lt hF, hx, hr⟩
theorem DK.keep {F : Nat → Prop} {b : Nat} {a : Option Addr} {n c f : Nat} {xs l : List El} {w w' : World} (h : DK F b a n c f xs l w) (hk : ∀ k, k < w.heap.size → F k → w'.heap[k]? = w.heap[k]?) : DK F b a n c f xs l w' := by
  refine ⟨(hk b (lt_of h.blk) h.own).trans h.blk, h.own, h.fit, h.nc, h.lim, ?_, h.is⟩
  rcases h.row with r | ⟨g, e, hF, hx, hr⟩
  · exact .inl r
  · exact .inr ⟨g, e, hF, hx, (hk g hr.lt hF).trans hr⟩
theorem DQ.mono {F G : Nat → Prop} {b : Nat} {l : List El} {w : World} (h : DQ F b l w) (hG : ∀ k, k < w.heap.size → F k → G k) : DQ G b l w := by
  obtain ⟨a, n, c, f, xs, h⟩ := h
  exact ⟨a, n, c, f, xs, h.mono hG⟩
theorem DQ.keep {F : Nat → Prop} {b : Nat} {l : List El} {w w' : World} (h : DQ F b l w) (hk : ∀ k, k < w.heap.size → F k → w'.heap[k]? = w.heap[k]?) : DQ F b l w' := by
  obtain ⟨a, n, c, f, xs, h⟩ := h
  exact ⟨a, n, c, f, xs, h.keep hk⟩
theorem DQ.below {F : Nat → Prop} {b : Nat} {l : List El} {w w' : World} (h : DQ F b l w) (e : Below w.heap.size w w') : DQ F b l w' := h.keep fun k hk _ => e.block k hk
theorem DQ.drewN {F : Nat → Prop} {b : Nat} {l : List El} {w : World} (h : DQ F b l w) (m : Nat) : DQ F b l (w.drewN m) := h.keep fun _ _ _ => rfl
theorem DQ.low {F : Nat → Prop} {b : Nat} {l : List El} {w : World} (h : DQ F b l w) : DQ (fun k => F k ∧ k < w.heap.size) b l w := h.mono fun k hk hf => ⟨hf, hk⟩
theorem DQ.up {F : Nat → Prop} {b : Nat} {l : List El} {w : World} (h : DQ F b l w) (w0 : World) : DQ (Gr F w0) b l w := h.mono fun k hk hf => .inl hf
theorem DK.ne {F : Nat → Prop} {b : Nat} {a : Option Addr} {n c f : Nat} {xs l : List El} {w : World} (h : DK F b a n c f xs l w) {g : Nat} {ys : List El} (hr : RowIs w g ys) : b ≠ g := by
  rintro rfl
  have := h.blk
  rw [show w.heap[b]? = _ from hr] at this
  injection this with this
  injection this with _ this
  exact absurd this (by decide)
theorem DK.cell {F : Nat → Prop} {b : Nat} {a : Option Addr} {n c f : Nat} {xs l : List El} {w : World} (h : DK F b a n c f xs l w) (i : Nat) : w.cell? ⟨b, i, none⟩ = (#[.slice a n c, .int .i64 (f : Int), .int .i64 ((f + l.length : Nat) : Int)] : Array Value)[i]? := Lib.cell_of_heap h.blk i
theorem DK.frozen {F : Nat → Prop} {b : Nat} {a : Option Addr} {n c f : Nat} {xs l : List El} {w : World} (h : DK F b a n c f xs l w) (i : Nat) : w.frozen? ⟨b, i, none⟩ = false := Lib.frozen_of_heap h.blk i
/-- the elements where they stand -/
theorem DK.rd {F : Nat → Prop} {b : Nat} {a : Option Addr} {n c f : Nat} {xs l : List El} {w : World} (h : DK F b a n c f xs l w) : Rd F w (ca a c f) l := by
  by_cases q : l = []
  · exact .inl q
  · have hl : 0 < l.length := List.length_pos_iff.2 q
    have h1 := h.fit
    have h2 := h.nc
    rcases h.row with ⟨rfl, rfl⟩ | ⟨g, rfl, hF, hx, hr⟩
    · omega
    · refine .inr ⟨g, 0 + f, ca_some g 0 c f (by omega), hF, fun j x hj => ?_⟩
      rw [hr.cell]
      rw [← h.is, List.getElem?_take] at hj
      split at hj
      · rw [List.getElem?_drop] at hj
        rw [show 0 + f + j = f + j by omega, hj]; rfl
      · cases hj
end Go.Proofs.Ytdmjfmojacnbeaa.SBase
end
section
namespace Go.Proofs.Ytdmjfmojacnbeaa.SHeld
open Go.RowKit
open Go.Proofs.Ytdmjfmojacnbeaa.SBase
open Go.Proofs.Ytdmjfmojacnbeaa.Base (Fr Gr ptr hid_of lt_of set_at set_ne size_set row_ne size_row add_off bel_drewN ca ca_some ca_zero cell_lt)
set_option linter.unusedVariables false
set_option linter.unusedSimpArgs false
set_option maxRecDepth 100000 in
theorem held_call {F : Nat → Prop} {b : Nat} {a : Option Addr} {n c f : Nat} {xs l : List El} {w : World} (h : DK F b a n c f xs l w) :
    Calls Try.prog 56 #[ptr b] w fun e w' => e = .returned (.slice (ca a c f) l.length (c - f)) ∧ ∃ m, w' = w.drewN m := by
  have c0 : w.cell? ⟨b, 0, none⟩ = some (.slice a n c) := h.cell 0
  have c1 : w.cell? ⟨b, 1, none⟩ = some (.int .i64 (f : Int)) := h.cell 1
  obtain ⟨t, HT⟩ : ∃ t, Hid (t = f + l.length) := ⟨_, hid_of rfl⟩
  have c2 : w.cell? ⟨b, 2, none⟩ = some (.int .i64 (t : Int)) := by rw [HT.out]; exact h.cell 2
  have h1 := h.fit
  have h2 := h.nc
  have hs := cut_any a n c f t (f : Int) (t : Int) rfl rfl (by rw [HT.out]; omega) (by rw [HT.out]; omega)
  have HE := hid_of (show t - f = l.length by rw [HT.out]; omega)
  clear h h1 h2
  go_enter Try.func56, Try.ntmps56
  go_wp2_with fail
  go_quiet (fail)
  go_wp2_with fail
  go_ret
  refine ⟨by rw [HE.out]; rfl, nq, rfl⟩
theorem held_nil (w : World) : Calls Try.prog 56 #[.pointer none] w fun e w' => e = .returned (.slice none 0 0) ∧ w' = w := by
  go_enter Try.func56, Try.ntmps56
  go_wp2
  go_ret
  exact ⟨rfl, rfl⟩
set_option maxRecDepth 100000 in
theorem len_call {F : Nat → Prop} {b : Nat} {l : List El} {w : World} (h : DQ F b l w) :
    Calls Try.prog 55 #[ptr b] w fun e w' => e = .returned (.int .i64 (l.length : Int)) ∧ ∃ m, w' = w.drewN m := by
  obtain ⟨a, n, c, f, xs, h⟩ := h
  have H := hid_of (held_call h)
  clear h
  go_enter Try.func55, Try.ntmps55
  go_wp2_with fail
  refine H.out.mono ?_
  rintro e w1 ⟨rfl, m, rfl⟩
  go_wp2_with fail
  go_ret
  exact ⟨rfl, m, rfl⟩
theorem len_nil (w : World) : Calls Try.prog 55 #[.pointer none] w fun e w' => e = .returned (.int .i64 0) ∧ w' = w := by
  have H := hid_of (held_nil w)
  go_enter Try.func55, Try.ntmps55
  go_wp2_with fail
  refine H.out.mono ?_
  rintro e w1 ⟨rfl, rfl⟩
  go_wp2_with fail
  go_ret
  exact ⟨rfl, rfl⟩
theorem info9 : (Try.prog.info? 9).map (fun i => (i.zero, i.size, i.bytes)) = some (some (V Z), 1, 16) := by kernel_rfl
theorem rd_src {G : Nat → Prop} {w : World} {a : Option Addr} {l : List El} (h : Rd G w a l) (hl : l ≠ []) (c : Nat) : Src Try.prog 1 37 (.slice a l.length c) l.length (l.map V) w := by
  rcases h with rfl | ⟨g, o, rfl, _, hc⟩
  · exact absurd rfl hl
  · refine Src.ofSlice (P := Try.prog) w Try.underlying37 ⟨g, o, none⟩ l.length c (l.map V) (by simp) (fun j u hj => ?_) (fun u hu => by
      obtain ⟨x, _, rfl⟩ := List.mem_map.1 hu
      rfl)
    rw [List.getElem?_map] at hj
    obtain ⟨x, hx, rfl⟩ := Option.map_eq_some_iff.1 hj
    rw [add_off]
    exact hc j x hx
theorem zeros_cells (n : Nat) : Builtin.zeroCells (V Z).cells n = cells (List.replicate n Z) := by
  apply Array.ext'
  rw [show (V Z).cells = #[V Z] from rfl]
  simp [Builtin.zeroCells, cells]
  apply List.ext_getElem
  · simp
  · intro i h1 h2
    simp [Nat.mod_one]
/-- a list appended to nothing -/
theorem app_nil {G : Nat → Prop} {w : World} {a : Option Addr} {l : List El} {c : Nat} (h : Rd G w a l) (hb : l.length * 16 ≤ 140737488355328) (ty : TypeId) :
    ∃ v w', (Builtin.append_ #[37, 37] ty #[.slice none 0 0, .slice a l.length c]).run Try.prog w = .ok v w' ∧ NR w.heap.size w' v l ∧ Below w.heap.size w w' := by
  obtain ⟨i, hi, hz0, hz1, hz2⟩ := info_parts info9
  by_cases hl : l = []
  · subst hl
    refine ⟨.slice none 0 0, w, ?_, .inl ⟨rfl, rfl⟩, Below.refl _ _⟩
    cases a with
    | none => simp [Builtin.append_, run_underlying Try.underlying37, Builtin.lenOf, Builtin.firstCells, sizeOf, typeInfo, hi]
    | some x =>
      have hl := run_loadCells_list (P := Try.prog) w x [] (by simp)
      simp at hl
      simp [Builtin.append_, run_underlying Try.underlying37, Builtin.lenOf, Builtin.firstCells, sizeOf, typeInfo, hi, hz1, hl]
  · have hs : Src Try.prog i.size 37 (.slice a l.length c) l.length (l.map V) w := by rw [hz1]; exact rd_src h hl c
    have hp : 0 < l.length := List.length_pos_iff.2 hl
    have hr := run_append_grow_src (P := Try.prog) w 37 37 ty 9 i (V Z) Try.underlying37 hi hz0 none 0 0 [] (by simp [Builtin.firstCells]) (.slice a l.length c) l.length (l.map V) hs (by omega) (by omega) (growslice_fits (by omega) (by rw [hz2]; omega))
    rw [Nat.zero_add, List.nil_append] at hr
    have hge := grownCap_ge w l.length 0 9
    refine ⟨_, _, hr, .inr ⟨w.heap.size, grownCap w l.length 0 9, l ++ List.replicate (grownCap w l.length 0 9 - l.length) Z, rfl, Nat.le_refl _, ?_, by simp; omega, hge, by simp⟩, (Below.refl _ w).drew.alloc (Nat.le_refl _) _⟩
    unfold RowIs
    rw [show w.heap.size = w.drew.heap.size from rfl, heap_alloc_new w.drew, zeros_cells]
    simp [cells]
section
variable {ops : Array Oper} {rest : List Oper} {o : Oper} {a : Act} {Q : Exit → Act → World → Prop}
theorem wpl_eq (hgd : o.guard = none) (s x : Operand) (t tx : TypeId) (ho : o.op = .call { callee := .builtin .append, args := #[s, x], argTypes := #[t, tx] }) (v u v' : Value) (W W' : World) (hs : a.eval s = v) (hx : a.eval x = u)
    (hr : (Builtin.append_ #[t, tx] o.type #[v, u]).run Try.prog W = .ok v' W') (hK : wpList Try.prog ops Q rest (a.put o.dst v') W') : wpList Try.prog ops Q (o :: rest) a W := by
  refine wpList_plain hgd fun K hK2 => ?_
  unfold Oper.wp execOp
  simp only [ho, resolve, invoke, builtin, Sem.run_bind, Sem.run_pure, Result.andThen_ok, List.map_toArray, List.map_cons, List.map_nil, hs, hx, hr]
  exact hK2 _ _ hK
end
set_option maxRecDepth 100000 in
theorem fresh_call {G : Nat → Prop} {w : World} {v : Value} {l : List El} (h : SL G w v l) (hb : l.length * 16 ≤ 140737488355328) :
    Calls Try.prog 52 #[v] w fun e w' => ∃ v', e = .returned v' ∧ NR w.heap.size w' v' l ∧ Below w.heap.size w w' := by
  obtain ⟨a, c, rfl, hc, hr⟩ := h
  obtain ⟨v', w', hrun, hn, hbl⟩ := app_nil (c := c) hr hb 37
  have H := hid_of (And.intro hn hbl)
  clear hn hbl hr hb hc
  go_enter Try.func52, Try.ntmps52
  go_wp2_with (at_builtin; refine wpl_eq rfl _ _ 37 37 rfl (.slice none 0 0) (.slice a l.length c) v' _ w' rfl rfl hrun ?_)
  go_ret
  exact ⟨v', rfl, H.out⟩
end Go.Proofs.Ytdmjfmojacnbeaa.SHeld
end
section
namespace Go.Proofs.Ytdmjfmojacnbeaa.SLay
open Go.RowKit
open Go.Proofs.Ytdmjfmojacnbeaa.SBase
open Go.Proofs.Ytdmjfmojacnbeaa.Base (Fr Gr ptr hid_of lt_of set_at set_ne size_set row_ne size_row add_off bel_drewN ca ca_some ca_zero cell_lt)
open Go.Proofs.Ytdmjfmojacnbeaa.SHeld
set_option linter.unusedVariables false
set_option linter.unusedSimpArgs false
theorem made_row (n : Nat) : (madeCells #[V Z] n).toList = (List.replicate n Z).map V := by
  rw [toList_madeCells_one]
  simp
theorem row_of_own {w : World} {base g n : Nat} (h : w.ownsRow base 9 1 (.slice (some ⟨g, 0, none⟩) n n) n (madeCells #[V Z] n).toList) : RowIs w g (List.replicate n Z) := by
  rw [made_row] at h
  rcases h.2 with ⟨e, _⟩ | ⟨g', cap, cur, e, hb, hg, h1, h2, h3, h4⟩
  · cases e
  · simp only [Value.slice.injEq, Option.some.injEq, Addr.mk.injEq] at e
    obtain ⟨⟨rfl, -⟩, -, rfl⟩ := e
    unfold RowIs
    rw [hg, show cur = cells (List.replicate n Z) from by
      apply Array.ext'
      rw [← List.take_of_length_le (l := cur.toList) (i := n * 1) (by simp; omega), h4]
      simp [cells]]
theorem size_some : (Try.prog.info? 9).map (·.size) = some 1 := by kernel_rfl
/-- copy: what is read first is laid -/
theorem copy_run {G : Nat → Prop} {w : World} {g : Nat} {xs : List El} (hr : RowIs w g xs) {d : Option Addr} {o dn dc : Nat} {sa : Option Addr} {s : List El} {sc : Nat} (hs : Rd G w sa s) (hd : 0 < (s.take dn).length → d = some ⟨g, o, none⟩) (ho : o + (s.take dn).length ≤ xs.length) :
    ∃ w', (∀ ty, (Builtin.copy_ #[37, 37] ty #[.slice d dn dc, .slice sa s.length sc]).run Try.prog w = .ok (goInt (s.take dn).length) w') ∧ RowIs w' g (lay xs o (s.take dn)) ∧ ∃ cs, w' = w.setRow g cs := by
  by_cases q : (s.take dn) = []
  · have h0 : Nat.min s.length dn = 0 := by
      have := congrArg List.length q
      simp at this
      rcases this with h | h
      · subst h; simp
      · subst h; simp
    refine ⟨w, fun ty => ?_, by rw [q, lay_nil]; exact hr, cells xs, (setRow_self w g _ 9 (0, 0) hr).symm⟩
    rw [q]
    exact run_copy_none w 37 37 ty 9 d sa dn dc s.length sc Try.underlying37 size_some h0
  · have hp : 0 < (s.take dn).length := List.length_pos_iff.2 q
    rw [hd hp]
    rcases hs with rfl | ⟨g', o', rfl, _, hc⟩
    · simp at hp
    · refine ⟨_, fun ty => ?_, hr.lay o (s.take dn), _, rfl⟩
      have := run_copy_row Try.prog w 37 37 ty 9 g o dn dc ⟨g', o', none⟩ s.length sc (cells xs) 9 ((s.take dn).map V) Try.underlying37 size_some hr (by rw [List.length_map, List.length_take]; exact Nat.min_comm _ _) (fun j v hj => by
        rw [List.getElem?_map, List.getElem?_take] at hj
        rw [add_off]
        split at hj
        · obtain ⟨x, hx, rfl⟩ := Option.map_eq_some_iff.1 hj
          exact hc j x hx
        · cases hj) (by rw [List.length_map, cells_size]; exact ho) (fun v hv => by
        obtain ⟨x, _, rfl⟩ := List.mem_map.1 hv
        rfl)
      rw [this, List.length_map]
theorem lay_is (s n : Nat) (l : List El) (h : s + l.length ≤ n) : ((lay (List.replicate n Z) s l).drop s).take l.length = l := by
  unfold lay
  rw [List.append_assoc, List.drop_append_of_le_length (by simp; omega)]
  have : ((List.replicate n Z).take s).drop s = [] := by simp; omega
  rw [this]
  simp
set_option maxHeartbeats 1000000 in
set_option maxRecDepth 100000 in
theorem lay_call {F : Nat → Prop} {b : Nat} {l : List El} {w : World} (h : DQ F b l w) (s : Nat) (hs : (2 * s + l.length) * 16 ≤ 281474976710656) :
    Calls Try.prog 74 #[ptr b, .int .i64 (s : Int)] w fun e w' => e = .returned (.tuple #[]) ∧ (∃ a c xs, DK (Gr F w) b a (2 * s + l.length) c s xs l w') ∧ Fr F w w' := by
  obtain ⟨a, n, c, f, xs, h⟩ := h
  have H := hid_of (held_call h)
  obtain ⟨i0, hi, hz0, hz1, hz2⟩ := info_parts info9
  obtain ⟨t, HT⟩ : ∃ t, Hid (t = s + l.length) := ⟨_, hid_of rfl⟩
  obtain ⟨N, HN⟩ : ∃ N, Hid (N = 2 * s + l.length) := ⟨_, hid_of rfl⟩
  rw [← HN.out] at hs ⊢
  have e1 : (s : Int) + (l.length : Int) = (t : Int) := by rw [HT.out]; simp
  have e2 : (t : Int) + (s : Int) = (N : Int) := by rw [HT.out, HN.out]; simp; omega
  have hsN : s ≤ N := by rw [HN.out]; omega
  have hb := lt_of h.blk
  have HD := hid_of h
  clear h
  go_enter Try.func74, Try.ntmps74
  go_wp2_with fail
  refine H.out.mono ?_
  rintro e w1 ⟨rfl, m1, rfl⟩
  have b1 : s ≤ 281474976710656 := by omega
  have b2 : l.length ≤ 281474976710656 := by have := HN.out; omega
  have b3 : t ≤ 281474976710656 := by have := HN.out; have := HT.out; omega
  go_wp2_with (at_make; refine wpList_make_full _ rfl _ _ 37 rfl w.heap.size 9 i0 (V Z) 1 Try.underlying37 hi hz0 hz1 _ _ _ _ N rfl rfl (by first | rfl | exact e2) (by first | rfl | exact e2) ?b2 ?b3 (Nat.le_refl _) ?_)
  case b2 => rw [hz2]; omega
  case b3 => unfold maxLen; omega
  intro w0 hown0 hgrow0
  have hb0 : Below w.heap.size w w0 := (bel_drewN w m1).trans ((Below.refl _ _).grown hgrow0 (Nat.le_refl _) (fun k h => by cases h))
  have hr0 : RowIs w0 w.heap.size (List.replicate N Z) := row_of_own hown0
  have hcut := cut_lo (some ⟨w.heap.size, 0, none⟩) N N s (s : Int) rfl hsN
  have hsrc : Rd F w0 (ca a c f) l := HD.out.rd.keep fun k hk _ => hb0.block k hk
  have htk : l.take (N - s) = l := List.take_of_length_le (by rw [HN.out]; omega)
  obtain ⟨w2, hcp, hr2, cs, hw2⟩ := copy_run (d := ca (some ⟨w.heap.size, 0, none⟩) N s) (o := s) (dn := N - s) (dc := N - s) (sc := c - f) hr0 hsrc (fun hp => by
    rw [htk] at hp
    rw [ca_some _ _ _ _ (by rw [HN.out]; omega), Nat.zero_add]) (by rw [htk, List.length_replicate, HN.out]; omega)
  rw [htk] at hr2
  have hb2 : w2.heap[b]? = w.heap[b]? := by
    rw [hw2, row_ne (by omega)]
    exact hb0.block b hb
  have c0 : w2.heap[b]? = _ := hb2.trans HD.out.blk
  have k0 : w2.cell? ⟨b, 0, none⟩ = _ := Lib.cell_of_heap c0 0
  have k1 : w2.cell? ⟨b, 1, none⟩ = _ := Lib.cell_of_heap c0 1
  have k2 : w2.cell? ⟨b, 2, none⟩ = _ := Lib.cell_of_heap c0 2
  have z0 : w2.frozen? ⟨b, 0, none⟩ = false := Lib.frozen_of_heap c0 0
  have z1 : w2.frozen? ⟨b, 1, none⟩ = false := Lib.frozen_of_heap c0 1
  have z2 : w2.frozen? ⟨b, 2, none⟩ = false := Lib.frozen_of_heap c0 2
  have hbb : w.heap.size ≠ b := by omega
  have HR := hid_of (And.intro hr2 (And.intro c0 (And.intro hb0 hw2)))
  clear hr0 hsrc hr2 hw2 hb0 hown0 hgrow0 hb2 c0
  go_wp2_with (simp only [hcp])
  go_end0
  refine ⟨rfl, ?_, ?_⟩
  · obtain ⟨r1, r2, r3, r4⟩ := HR.out
    have hlay : (lay (List.replicate N Z) s l).length = N := by rw [lay_len (by rw [List.length_replicate, HN.out]; omega), List.length_replicate]
    refine ⟨_, _, _, ⟨?_, .inl HD.out.own, by rw [HN.out]; omega, Nat.le_refl _, by omega, .inr ⟨w.heap.size, rfl, .inr (Nat.le_refl _), hlay, ?_⟩, lay_is s N l (by rw [HN.out]; omega)⟩⟩
    · rw [set_at (set_at (set_at r2 _) _) _, ← HT.out]
      simp
    · unfold RowIs
      rw [set_ne hbb, set_ne hbb, set_ne hbb]
      exact r1
  · obtain ⟨r1, r2, r3, r4⟩ := HR.out
    have f1 : Fr F w w2 := by
      rw [r4]
      exact (Fr.of_below r3).trans (Fr.row (.inr (Nat.le_refl _)) _)
    exact ((f1.trans (Fr.set (.inl HD.out.own) _)).trans (Fr.set (.inl HD.out.own) _)).trans (Fr.set (.inl HD.out.own) _)
end Go.Proofs.Ytdmjfmojacnbeaa.SLay
end
section
namespace Go.Proofs.Ytdmjfmojacnbeaa.SApp
open Go.RowKit
open Go.Proofs.Ytdmjfmojacnbeaa.SBase
open Go.Proofs.Ytdmjfmojacnbeaa.Base (Fr Gr ptr hid_of lt_of set_at set_ne size_set row_ne size_row add_off bel_drewN ca ca_some ca_zero cell_lt)
open Go.Proofs.Ytdmjfmojacnbeaa.SHeld
open Go.Proofs.Ytdmjfmojacnbeaa.SLay
set_option linter.unusedVariables false
set_option linter.unusedSimpArgs false
theorem take_lay {xs l : List El} {c : Nat} (h : xs.take l.length = l) (m : List El) (hx : l.length + m.length ≤ xs.length) : (lay xs l.length m).take (l ++ m).length = l ++ m := by
  unfold lay
  rw [h, List.take_left']
  rfl
/-- a list appended to a new row -/
theorem app_any {G : Nat → Prop} {B : Nat} {w : World} {v : Value} {l m : List El} {a : Option Addr} {c : Nat} (h : NR B w v l) (hm : Rd G w a m) (hb : (l.length + m.length) * 16 ≤ 140737488355328) (hB : B ≤ w.heap.size) (ty : TypeId) :
    ∃ v' w', (Builtin.append_ #[37, 37] ty #[v, .slice a m.length c]).run Try.prog w = .ok v' w' ∧ NR B w' v' (l ++ m) ∧ Below B w w' := by
  obtain ⟨i, hi, hz0, hz1, hz2⟩ := info_parts info9
  by_cases hl : m = []
  · subst hl
    refine ⟨v, w, ?_, by simpa using h, Below.refl _ _⟩
    have hld : ∀ x, (loadCells x 0).run Try.prog w = .ok #[] w := fun x => by simpa using run_loadCells_list (P := Try.prog) w x [] (by simp)
    rcases h with ⟨rfl, rfl⟩ | ⟨g, cp, xs, rfl, hBg, hr, hx, hlc, ht⟩
    · cases a <;> simp [Builtin.append_, run_underlying Try.underlying37, Builtin.lenOf, Builtin.firstCells, sizeOf, typeInfo, hi, hz1, hld]
    · cases a <;> simp [Builtin.append_, run_underlying Try.underlying37, Builtin.lenOf, Builtin.firstCells, sizeOf, typeInfo, hi, hz1, hld, hlc, storeCells]
  · have hp : 0 < m.length := List.length_pos_iff.2 hl
    have hs : Src Try.prog i.size 37 (.slice a m.length c) m.length (m.map V) w := by rw [hz1]; exact rd_src hm hl c
    by_cases hroom : ∃ g cp xs, v = .slice (some ⟨g, 0, none⟩) l.length cp ∧ B ≤ g ∧ RowIs w g xs ∧ xs.length = cp ∧ xs.take l.length = l ∧ l.length + m.length ≤ cp
    · obtain ⟨g, cp, xs, rfl, hBg, hr, hx, ht, hrm⟩ := hroom
      have hst := run_storeCells_at Try.prog g l.length 9 (m.map V) 0 (cells xs) w hr (by rw [List.length_map, cells_size]; omega) (fun v hv => by
        obtain ⟨x, _, rfl⟩ := List.mem_map.1 hv
        rfl)
      simp only [Nat.add_zero] at hst
      have hcl := hs.cells
      rw [hz1] at hcl
      refine ⟨.slice (some ⟨g, 0, none⟩) (l.length + m.length) cp, _, ?_, .inr ⟨g, cp, _, by rw [List.length_append], hBg, hr.lay l.length m, by rw [lay_len (by omega)]; exact hx, by rw [List.length_append]; exact hrm, take_lay (c := cp) ht m (by omega)⟩, ?_⟩
      · simp [Builtin.append_, run_underlying Try.underlying37, Builtin.lenOf, sizeOf, typeInfo, hi, hz1, hrm, hcl, Addr.add_lit]
        simp at hst
        rw [hst]
        simp
      · exact (Fr.row (F := fun k => k = g) rfl _).below (Nat.le_trans hB (Nat.le_refl _)) fun k e => by rw [e]; exact hBg
    · have hg : ∃ ba cp, v = .slice ba l.length cp ∧ l.length ≤ cp ∧ cp < l.length + m.length ∧ (Builtin.firstCells i.size l.length (.slice ba l.length cp)).run Try.prog w.drew = .ok (l.map V).toArray w.drew := by
        rcases h with ⟨rfl, rfl⟩ | ⟨g, cp, xs, rfl, hBg, hr, hx, hlc, ht⟩
        · exact ⟨none, 0, rfl, Nat.le_refl _, by simpa using hp, by simp [Builtin.firstCells]⟩
        · refine ⟨_, cp, rfl, hlc, ?_, ?_⟩
          · rcases Nat.lt_or_ge cp (l.length + m.length) with q | q
            · exact q
            · exact absurd ⟨g, cp, xs, rfl, hBg, hr, hx, ht, q⟩ hroom
          · refine run_firstCells_some (P := Try.prog) w.drew i.size l.length ⟨g, 0, none⟩ l.length cp (l.map V) (by simp [hz1]) ?_
            intro j y hj
            rw [List.getElem?_map] at hj
            obtain ⟨x, hx1, rfl⟩ := Option.map_eq_some_iff.1 hj
            rw [add_off, Nat.zero_add]
            show w.cell? ⟨g, j, none⟩ = _
            rw [hr.cell]
            rw [← ht, List.getElem?_take] at hx1
            split at hx1
            · rw [hx1]; rfl
            · cases hx1
      obtain ⟨ba, cp, rfl, hlc, hlt, hold⟩ := hg
      have hr := run_append_grow_src (P := Try.prog) w 37 37 ty 9 i (V Z) Try.underlying37 hi hz0 ba l.length cp (l.map V) hold (.slice a m.length c) m.length (m.map V) hs hlt (by omega) (growslice_fits hlt (by rw [hz2]; exact hb))
      have hge := grownCap_ge w (l.length + m.length) cp 9
      refine ⟨_, _, hr, .inr ⟨w.heap.size, grownCap w (l.length + m.length) cp 9, (l ++ m) ++ List.replicate (grownCap w (l.length + m.length) cp 9 - (l.length + m.length)) Z, by rw [List.length_append], hB, ?_, by simp; omega, by rw [List.length_append]; exact hge, List.take_left' rfl⟩, (Below.refl _ w).drew.alloc hB _⟩
      unfold RowIs
      rw [show w.heap.size = w.drew.heap.size from rfl, heap_alloc_new w.drew, zeros_cells]
      simp [cells]
/-- append(l, x) -/
theorem app_one {B : Nat} {w : World} {v : Value} {l : List El} (x : El) (h : NR B w v l) (hb : (l.length + 1) * 16 ≤ 140737488355328) (hB : B ≤ w.heap.size) (ty : TypeId) :
    ∃ v' w', (Builtin.append_ #[37, 37] ty #[v, .slice (some ⟨w.heap.size, 0, none⟩) 1 1]).run Try.prog (w.alloc (.cells #[V x] 9)) = .ok v' w' ∧ NR B w' v' (l ++ [x]) ∧ Below B w w' := by
  have b1 := (Below.refl w.heap.size w).alloc (Nat.le_refl _) (.cells #[V x] 9)
  have hm : Rd (fun _ => True) (w.alloc (.cells #[V x] 9)) (some ⟨w.heap.size, 0, none⟩) [x] := by
    refine .inr ⟨w.heap.size, 0, rfl, trivial, fun j y hj => ?_⟩
    rw [Lib.cell_of_heap (heap_alloc_new w _)]
    cases j with
    | zero => simp at hj; subst hj; rfl
    | succ j => simp at hj
  obtain ⟨v', w', h1, h2, h3⟩ := app_any (c := 1) (h.below b1) hm (by simpa using hb) (Nat.le_trans hB b1.size) ty
  exact ⟨v', w', h1, h2, (b1.mono hB).trans h3⟩
end Go.Proofs.Ytdmjfmojacnbeaa.SApp
end
section
namespace Go.Proofs.Ytdmjfmojacnbeaa.SFree
open Go.RowKit
open Go.Proofs.Ytdmjfmojacnbeaa.SBase
open Go.Proofs.Ytdmjfmojacnbeaa.Base (Fr Gr ptr hid_of lt_of set_at set_ne size_set row_ne size_row add_off bel_drewN ca ca_some ca_zero cell_lt)
open Go.Proofs.Ytdmjfmojacnbeaa.SHeld
open Go.Proofs.Ytdmjfmojacnbeaa.SLay
set_option linter.unusedVariables false
set_option linter.unusedSimpArgs false
theorem DK.up {F : Nat → Prop} {b : Nat} {a : Option Addr} {n c f : Nat} {xs l : List El} {w : World} (h : DK F b a n c f xs l w) (w0 : World) : DK (Gr F w0) b a n c f xs l w := h.mono fun _ _ e => .inl e
theorem DK.drewN {F : Nat → Prop} {b : Nat} {a : Option Addr} {n c f : Nat} {xs l : List El} {w : World} (h : DK F b a n c f xs l w) (m : Nat) : DK F b a n c f xs l (w.drewN m) := h.keep fun _ _ _ => rfl
set_option maxHeartbeats 1000000 in
set_option maxRecDepth 100000 in
theorem free_call {F : Nat → Prop} {b : Nat} {l : List El} {w : World} (h : DQ F b l w) (x y : Nat) (X Y : Int) (hX : X = x) (hY : Y = y) (hs : (2 * (x + l.length + y) + l.length) * 16 ≤ 281474976710656) :
    Calls Try.prog 53 #[ptr b, .int .i64 X, .int .i64 Y] w fun e w' => e = .returned (.tuple #[]) ∧ (∃ a n c f xs, DK (Gr F w) b a n c f xs l w' ∧ x ≤ f ∧ f + l.length + y ≤ n) ∧ Fr F w w' := by
  have HQ := hid_of h
  have HL := hid_of (fun m => lay_call (h.drewN m) (x + l.length + y) hs)
  have HN := hid_of (fun m => len_call (h.drewN m))
  obtain ⟨a, n, c, f, xs, h⟩ := h
  have c0 : w.cell? ⟨b, 0, none⟩ = some (.slice a n c) := h.cell 0
  have c1 : w.cell? ⟨b, 1, none⟩ = some (.int .i64 (f : Int)) := h.cell 1
  obtain ⟨t, HT⟩ : ∃ t, Hid (t = f + l.length) := ⟨_, hid_of rfl⟩
  have c2 : w.cell? ⟨b, 2, none⟩ = some (.int .i64 (t : Int)) := by rw [HT.out]; exact h.cell 2
  have h1 : t ≤ n := by rw [HT.out]; exact h.fit
  have h2 := h.lim
  have b1 : x ≤ 281474976710656 := by omega
  have b2 : y ≤ 281474976710656 := by omega
  have b3 : l.length ≤ 281474976710656 := by omega
  obtain ⟨S, HS⟩ : ∃ S, Hid (S = x + l.length + y) := ⟨_, hid_of rfl⟩
  rw [← HS.out] at HL
  have eS : X + (l.length : Int) + Y = (S : Int) := by rw [HS.out, hX, hY]; simp
  have HX := hid_of (And.intro hX hY)
  have bX : 0 ≤ X ∧ X ≤ 281474976710656 := by omega
  have bY : 0 ≤ Y ∧ Y ≤ 281474976710656 := by omega
  obtain ⟨bX1, bX2⟩ := bX
  obtain ⟨bY1, bY2⟩ := bY
  have HD := hid_of h
  have w2 : IntKind.i64.wrap ((n : Int) - (t : Int)) = (n : Int) - (t : Int) := IntWalk.i64_in _ (by omega)
  have w3 : IntKind.i64.wrap (X + (l.length : Int)) = X + (l.length : Int) := IntWalk.i64_in _ (by omega)
  clear h hX hY hs
  by_cases g1 : (f : Int) < X
  · have d1 : decide ((f : Int) < X) = true := by simpa using g1
    go_enter Try.func53, Try.ntmps53
    go_wp2_with fail
    go_quiet (fail)
    go_wp2_with fail
    refine (HN.out _).mono ?_
    rintro e w1 ⟨rfl, m, rfl⟩
    go_wp2_with fail
    refine (HL.out (nq + m)).mono ?_
    rintro e w1 ⟨rfl, ⟨a', c', xs', k⟩, fr⟩
    have K := hid_of (And.intro k fr)
    clear k fr
    go_wp2_with fail
    go_end0
    exact ⟨rfl, ⟨a', _, c', _, xs', K.out.1, by rw [HS.out]; omega, by rw [HS.out]; omega⟩, ⟨K.out.2.os, K.out.2.tape, K.out.2.output, K.out.2.size, K.out.2.block⟩⟩
  · have d1 : decide ((f : Int) < X) = false := by simpa using g1
    by_cases g2 : (n : Int) - (t : Int) < Y
    · have d2 : decide ((n : Int) - (t : Int) < Y) = true := by simpa using g2
      go_enter Try.func53, Try.ntmps53
      go_wp2_with fail
      go_quiet (fail)
      go_wp2_with fail
      refine (HN.out _).mono ?_
      rintro e w1 ⟨rfl, m, rfl⟩
      go_wp2_with fail
      refine (HL.out (nq + m)).mono ?_
      rintro e w1 ⟨rfl, ⟨a', c', xs', k⟩, fr⟩
      have K := hid_of (And.intro k fr)
      clear k fr
      go_wp2_with fail
      go_end0
      exact ⟨rfl, ⟨a', _, c', _, xs', K.out.1, by rw [HS.out]; omega, by rw [HS.out]; omega⟩, ⟨K.out.2.os, K.out.2.tape, K.out.2.output, K.out.2.size, K.out.2.block⟩⟩
    · have d2 : decide ((n : Int) - (t : Int) < Y) = false := by simpa using g2
      go_enter Try.func53, Try.ntmps53
      go_wp2_with fail
      go_quiet (fail)
      go_wp2_with fail
      go_end0
      have hx := HX.out
      have ht := HT.out
      exact ⟨rfl, ⟨a, n, c, f, xs, DK.up (DK.drewN HD.out nq) w, by omega, by omega⟩, (Fr.refl _ _).drewN _⟩
set_option maxRecDepth 100000 in
theorem list_call {F : Nat → Prop} {b : Nat} {l : List El} {w : World} (h : DQ F b l w) (hb : l.length * 16 ≤ 140737488355328) :
    Calls Try.prog 35 #[ptr b] w fun e w' => ∃ v, e = .returned v ∧ NR w.heap.size w' v l ∧ Below w.heap.size w w' := by
  obtain ⟨a, n, c, f, xs, h⟩ := h
  have H := hid_of (held_call h)
  have HF := hid_of (fun m => fresh_call (w := w.drewN m) (G := F) (v := .slice (ca a c f) l.length (c - f)) ⟨_, _, rfl, by have := h.fit; have := h.nc; omega, (DK.drewN h m).rd⟩ hb)
  clear h hb
  go_enter Try.func35, Try.ntmps35
  go_wp2_with fail
  refine H.out.mono ?_
  rintro e w1 ⟨rfl, m, rfl⟩
  go_wp2_with fail
  refine (HF.out m).mono ?_
  rintro e w1 ⟨v, rfl, hn, hbl⟩
  have K := hid_of (And.intro hn hbl)
  clear hn hbl
  go_wp2_with fail
  go_ret
  exact ⟨v, rfl, K.out.1, (bel_drewN w m).trans K.out.2⟩
theorem NR.shape {B : Nat} {w : World} {v : Value} {l : List El} (h : NR B w v l) : ∃ a c, v = .slice a l.length c ∧ l.length ≤ c ∧ ((a = none ∧ c = 0) ∨ ∃ g xs, a = some ⟨g, 0, none⟩ ∧ B ≤ g ∧ xs.length = c ∧ RowIs w g xs ∧ xs.take l.length = l) := by
  rcases h with ⟨rfl, rfl⟩ | ⟨g, c, xs, rfl, hB, hr, hx, hl, ht⟩
  · exact ⟨none, 0, rfl, Nat.le_refl _, .inl ⟨rfl, rfl⟩⟩
  · exact ⟨_, c, rfl, hl, .inr ⟨g, xs, rfl, hB, hx, hr, ht⟩⟩
set_option maxRecDepth 100000 in
theorem of_call {G : Nat → Prop} {w : World} {v : Value} {l : List El} (h : SL G w v l) (hb : l.length * 16 ≤ 140737488355328) :
    Calls Try.prog 15 #[v] w fun e w' => ∃ b, e = .returned (ptr b) ∧ DQ (fun k => w.heap.size ≤ k) b l w' ∧ Below w.heap.size w w' := by
  have HF := hid_of (fresh_call h hb)
  obtain ⟨a, c, rfl, hc, hr⟩ := h
  have HB := hid_of hb
  clear hr hc hb
  go_enter Try.func15, Try.ntmps15
  go_wp2_with fail
  refine HF.out.mono ?_
  rintro e w1 ⟨v, rfl, hn, hbl⟩
  obtain ⟨a', c', rfl, hc', hr'⟩ := NR.shape hn
  have K := hid_of (And.intro hr' (And.intro hbl hc'))
  clear hn hbl hr' hc'
  go_wp2_with fail
  go_ret
  obtain ⟨k1, k2, k3⟩ := K.out
  have b2 := (Below.refl w1.heap.size w1).alloc (Nat.le_refl _) (.cells #[.slice a' l.length c', .int .i64 0, .int .i64 (l.length : Int)] 78)
  refine ⟨w1.heap.size, rfl, ?_, k2.trans (b2.mono k2.size)⟩
  rcases k1 with ⟨rfl, rfl⟩ | ⟨g, xs, rfl, hB, hx, hr, ht⟩
  · refine ⟨none, l.length, 0, 0, [], ⟨?_, k2.size, by omega, k3, by have := HB.out; omega, .inl ⟨rfl, rfl⟩, ?_⟩⟩
    · rw [heap_alloc_new]; simp
    · have : l = [] := by cases l with
        | nil => rfl
        | cons a r => simp at k3
      subst this; rfl
  · refine ⟨_, l.length, c', 0, xs, ⟨?_, k2.size, by omega, k3, by have := HB.out; omega, .inr ⟨g, rfl, hB, hx, (b2.block g hr.lt).trans hr⟩, by simpa using ht⟩⟩
    rw [heap_alloc_new]; simp
end Go.Proofs.Ytdmjfmojacnbeaa.SFree
end
