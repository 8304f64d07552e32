/- Lists of texts in memory: lists that are read, new rows, what a call may touch. The order of entries: by ticks, of one tick by keys; over texts and over numbers. The map that tells the place of each key: what a swap, a push, a pop and a new tick leave of it; over any keys. What may turn between two worlds: the blocks of a set. -/
import Derived.Test.YtminfpkigenahaaGreatDoorProg
import Derived.Test.YtminfpkigenahaaGreatDoorHeap2M
import Derived.WalkKit
import Derived.WalkSmall
import Derived.WalkLawsBesides
import Derived.WalkSpells
import Derived.BigQuiet
import Derived.BigRegion
import Derived.Below
import Derived.OwnWalk
import Derived.Lib.SliceRun
import Derived.Lib.Builder
import Derived.Lib.Strings
import Derived.Laws.OwnMore
import Derived.Laws.CopyRow
import Derived.Deep.LoopGhost
import Derived.Deep.RegionWith
import Derived.Deep.RegionHeld3
import Derived.Deep.AppendSrc
import Derived.Sort.OwnSorted
import Derived.Sort.Walk0
import Derived.Maps.OwnSet
section
namespace Go.Proofs.YtminfpkigenahaaGreatDoor.Base
open Go.RowKit Go.Sort
open Go.Proofs.YtminfpkigenahaaGreatDoor.SetMath
set_option linter.unusedVariables false
set_option linter.unusedSimpArgs false
abbrev El := Bs
def bs (s : ByteArray) : List UInt8 := s.data.toList
theorem len_bs (s : ByteArray) : (bs s).length = s.size := by unfold bs; simp
def mk (l : List UInt8) : ByteArray := ⟨l.toArray⟩
theorem bs_mk (l : List UInt8) : bs (mk l) = l := rfl
theorem mk_bs (s : ByteArray) : mk (bs s) = s := by cases s; simp [mk, bs]
theorem mk_size (l : List UInt8) : (mk l).size = l.length := by rw [← len_bs, bs_mk]
theorem mk_inj {a b : List UInt8} (h : mk a = mk b) : a = b := by rw [← bs_mk a, ← bs_mk b, h]
theorem mk_list (l : List UInt8) : (mk l).toList = l := by rw [Lib.toList_data]; rfl
theorem str_eq (a b : List UInt8) : ((mk a).toList == (mk b).toList) = decide (a = b) := by
  rw [mk_list, mk_list]
  by_cases h : a = b <;> simp [h]
theorem str_lt (a b : List UInt8) : Op.bytesLess (mk a).toList (mk b).toList = decide (a < b) := by rw [mk_list, mk_list, bytesLess_eq]
abbrev V (x : El) : Value := .string (mk x)
abbrev Z : El := []
theorem enc_V (x : El) : encStr x = V x := rfl
theorem enc_map (l : List El) : l.map encStr = l.map V := rfl
theorem ret_b {a b : Bool} (h : a = b) : Ending.returned (.bool a) = .returned (.bool b) := by rw [h]
theorem hid_of {p : Prop} (h : p) : Hid p := h
theorem lt_of {w : World} {b : Nat} {o : Obj} (h : w.heap[b]? = some o) : b < w.heap.size := (Array.getElem?_eq_some_iff.1 h).1
theorem set_at {w : World} {b i : Nat} {cs : Array Value} {ty : TypeId} {fz : Nat × Nat} (h : w.heap[b]? = some (.cells cs ty fz)) (v : Value) : (w.setCell ⟨b, i, none⟩ v).heap[b]? = some (.cells (cs.setIfInBounds i v) ty fz) := by
  rw [setCell_eq_setRow w b i cs ty fz v h]
  exact setRow_heap w b cs _ ty _ h
theorem set_ne {w : World} {b i k : Nat} (h : k ≠ b) (v : Value) : (w.setCell ⟨b, i, none⟩ v).heap[k]? = w.heap[k]? := Below.heap_setCell _ _ _ _ h
theorem size_set {w : World} (p : Addr) (v : Value) : (w.setCell p v).heap.size = w.heap.size := by simp [World.setCell]
theorem row_ne {w : World} {g k : Nat} {cs : Array Value} (h : k ≠ g) : (w.setRow g cs).heap[k]? = w.heap[k]? := by
  unfold World.setRow
  simp [Array.getElem?_modify, Ne.symm h]
theorem size_row {w : World} {g : Nat} {cs : Array Value} : (w.setRow g cs).heap.size = w.heap.size := by
  unfold World.setRow
  simp
theorem add_off (g o k : Nat) : (⟨g, o, none⟩ : Addr).add k = ⟨g, o + k, none⟩ := Addr.add_lit g o k

/- what a call may touch -/
structure Fr (F : Nat → Prop) (w w' : World) : Prop where
  os : w'.os = w.os
  tape : w'.tape = w.tape
  output : w'.output = w.output
  size : w.heap.size ≤ w'.heap.size
  block : ∀ k, k < w.heap.size → ¬ F k → w'.heap[k]? = w.heap[k]?
def Gr (F : Nat → Prop) (w : World) : Nat → Prop := fun k => F k ∨ w.heap.size ≤ k
theorem Fr.refl (F : Nat → Prop) (w : World) : Fr F w w := ⟨rfl, rfl, rfl, Nat.le_refl _, fun _ _ _ => rfl⟩
theorem Fr.trans {F : Nat → Prop} {a b c : World} (h : Fr F a b) (k : Fr (Gr F a) b c) : Fr F a c :=
  ⟨k.os.trans h.os, k.tape.trans h.tape, k.output.trans h.output, Nat.le_trans h.size k.size, fun i hi hn => (k.block i (Nat.lt_of_lt_of_le hi h.size) (fun e => by
    rcases e with e | e
    · exact hn e
    · omega)).trans (h.block i hi hn)⟩
theorem Fr.mono {F G : Nat → Prop} {a b : World} (h : Fr F a b) (hG : ∀ k, k < a.heap.size → F k → G k) : Fr G a b := ⟨h.os, h.tape, h.output, h.size, fun k hk hn => h.block k hk (fun e => hn (hG k hk e))⟩
theorem Fr.of_below {F : Nat → Prop} {a b : World} (h : Below a.heap.size a b) : Fr F a b := ⟨h.os, h.tape, h.output, h.size, fun k hk _ => h.block k hk⟩
theorem Fr.below {F : Nat → Prop} {a b : World} (h : Fr F a b) {base : Nat} (hb : base ≤ a.heap.size) (hF : ∀ k, F k → base ≤ k) : Below base a b := ⟨h.os, h.tape, h.output, h.size, fun k hk => h.block k (by omega) (fun e => by have := hF k e; omega)⟩
theorem Fr.alloc {F : Nat → Prop} {a b : World} (h : Fr F a b) (o : Obj) : Fr F a (b.alloc o) := h.trans (Fr.of_below ((Below.refl _ b).alloc (Nat.le_refl _) o))
theorem Fr.drew {F : Nat → Prop} {a b : World} (h : Fr F a b) : Fr F a b.drew := ⟨h.os, h.tape, h.output, h.size, h.block⟩
theorem Fr.drewN {F : Nat → Prop} {a b : World} (h : Fr F a b) (n : Nat) : Fr F a (b.drewN n) := ⟨h.os, h.tape, h.output, h.size, h.block⟩
theorem Fr.set {F : Nat → Prop} {w : World} {f i : Nat} (hF : F f) (v : Value) : Fr F w (w.setCell ⟨f, i, none⟩ v) := by
  have e0 : Below 0 w (w.setCell ⟨f, i, none⟩ v) := (Below.refl 0 w).setCell (Nat.zero_le _) v
  exact ⟨e0.os, e0.tape, e0.output, e0.size, fun k hk hn => set_ne (fun e => hn (by rw [e]; exact hF)) v⟩
theorem Fr.row {F : Nat → Prop} {w : World} {g : Nat} (hF : F g) (cs : Array Value) : Fr F w (w.setRow g cs) :=
  ⟨rfl, rfl, rfl, by rw [size_row]; exact Nat.le_refl _, fun k hk hn => row_ne (fun e => hn (by rw [e]; exact hF))⟩
theorem bel_drewN (w : World) (n : Nat) : Below w.heap.size w (w.drewN n) := ⟨rfl, rfl, rfl, Nat.le_refl _, fun _ _ => rfl⟩

/- a slice: its address, its length and its room -/
def ca (a : Option Addr) (c i : Nat) : Option Addr := if c = i then a else a.map (·.add i)
theorem ca_some (g o c i : Nat) (h : i < c) : ca (some ⟨g, o, none⟩) c i = some ⟨g, o + i, none⟩ := by
  unfold ca
  rw [if_neg (by omega)]
  simp [add_off]
theorem ca_zero (a : Option Addr) (c : Nat) : ca a c 0 = a := by
  unfold ca
  by_cases h : c = 0
  · rw [if_pos h]
  · rw [if_neg h]
    cases a with
    | none => rfl
    | some a => simp [Addr.add]
theorem size9 (w : World) : (Go.sizeOf 9).run Tryz.prog w = .ok 1 w := by kernel_rfl
theorem cut_any (a : Option Addr) (n c i j : Nat) (x y : Int) (hx : x = i) (hy : y = j) (hij : i ≤ j) (hj : j ≤ c) (w : World) :
    (Instr.slice 26 (.slice a n c) (some (.int .i64 x)) (some (.int .i64 y)) none).run Tryz.prog w = .ok (.slice (ca a c i) (j - i) (c - i)) w := by
  subst hx; subst hy
  have h1 : (i : Int) ≤ j := by omega
  have h2 : (j : Int) ≤ c := by omega
  simp [Instr.slice, run_underlying Tryz.underlying26, Instr.sliceBounds, run_sliceBound, size9, ca, h1, h2]
theorem cut_lo (a : Option Addr) (n c i : Nat) (x : Int) (hx : x = i) (hi : i ≤ n) (w : World) :
    (Instr.slice 26 (.slice a n c) (some (.int .i64 x)) none none).run Tryz.prog w = .ok (.slice (ca a c i) (n - i) (c - i)) w := by
  subst hx
  have h1 : (i : Int) ≤ n := by omega
  simp [Instr.slice, run_underlying Tryz.underlying26, Instr.sliceBounds, run_sliceBound, size9, ca, h1]
theorem cut_hi (a : Option Addr) (n c j : Nat) (y : Int) (hy : y = j) (hj : j ≤ c) (w : World) :
    (Instr.slice 26 (.slice a n c) none (some (.int .i64 y)) none).run Tryz.prog w = .ok (.slice a j c) w := by
  subst hy
  have h2 : (j : Int) ≤ c := by omega
  have := ca_zero a c
  unfold ca at this
  simp [Instr.slice, run_underlying Tryz.underlying26, Instr.sliceBounds, run_sliceBound, size9, h2, this]

/-- behind the address a lie the elements l, in a block of which G holds -/
def Rd (G : Nat → Prop) (w : World) (a : Option Addr) (l : List El) : Prop := l = [] ∨ ∃ g o, a = some ⟨g, o, none⟩ ∧ G g ∧ ∀ j x, l[j]? = some x → w.cell? ⟨g, o + j, none⟩ = some (V x)
def SL (G : Nat → Prop) (w : World) (v : Value) (l : List El) : Prop := ∃ a c, v = .slice a l.length c ∧ l.length ≤ c ∧ Rd G w a l
theorem cell_lt {w : World} {p : Addr} {v : Value} (h : w.cell? p = some v) : p.block < w.heap.size := block_lt_of_cell h
theorem Rd.lt {G : Nat → Prop} {w : World} {a : Option Addr} {l : List El} (h : Rd G w a l) : Rd (fun k => G k ∧ k < w.heap.size) w a l := by
  rcases h with rfl | ⟨g, o, rfl, hG, hc⟩
  · exact .inl rfl
  · cases l with
    | nil => exact .inl rfl
    | cons x r => exact .inr ⟨g, o, rfl, ⟨hG, cell_lt (hc 0 x rfl)⟩, hc⟩
theorem Rd.mono {G G' : Nat → Prop} {w : World} {a : Option Addr} {l : List El} (h : Rd G w a l) (hG : ∀ k, k < w.heap.size → G k → G' k) : Rd G' w a l := by
  rcases h.lt with rfl | ⟨g, o, rfl, hg, hc⟩
  · exact .inl rfl
  · exact .inr ⟨g, o, rfl, hG g hg.2 hg.1, hc⟩
theorem Rd.keep {G : Nat → Prop} {w w' : World} {a : Option Addr} {l : List El} (h : Rd G w a l) (hk : ∀ k, k < w.heap.size → G k → w'.heap[k]? = w.heap[k]?) : Rd G w' a l := by
  rcases h.lt with rfl | ⟨g, o, rfl, hg, hc⟩
  · exact .inl rfl
  · exact .inr ⟨g, o, rfl, hg.1, fun j x hj => (World.cell?_of_block (w := w) (hk g hg.2 hg.1)).trans (hc j x hj)⟩
theorem Rd.take {G : Nat → Prop} {w : World} {a : Option Addr} {l : List El} (h : Rd G w a l) (k : Nat) : Rd G w a (l.take k) := by
  rcases h with rfl | ⟨g, o, rfl, hg, hc⟩
  · exact .inl (by simp)
  · exact .inr ⟨g, o, rfl, hg, fun j x hj => hc j x (by
      rw [List.getElem?_take] at hj
      split at hj
      · exact hj
      · cases hj)⟩
theorem Rd.drop {G : Nat → Prop} {w : World} {a : Option Addr} {l : List El} (h : Rd G w a l) {c : Nat} (hc : l.length ≤ c) (i : Nat) : Rd G w (ca a c i) (l.drop i) := by
  by_cases q : l.length ≤ i
  · exact .inl (List.drop_eq_nil_of_le q)
  · rcases h with rfl | ⟨g, o, rfl, hg, hr⟩
    · exact .inl (by simp)
    · refine .inr ⟨g, o + i, ca_some g o c i (by omega), hg, fun j x hj => ?_⟩
      rw [List.getElem?_drop] at hj
      have := hr _ x hj
      rwa [show o + (i + j) = o + i + j by omega] at this
theorem SL.mono {G G' : Nat → Prop} {w : World} {v : Value} {l : List El} (h : SL G w v l) (hG : ∀ k, k < w.heap.size → G k → G' k) : SL G' w v l := by
  obtain ⟨a, c, rfl, hc, hr⟩ := h
  exact ⟨a, c, rfl, hc, hr.mono hG⟩
theorem SL.keep {G : Nat → Prop} {w w' : World} {v : Value} {l : List El} (h : SL G w v l) (hk : ∀ k, k < w.heap.size → G k → w'.heap[k]? = w.heap[k]?) : SL G w' v l := by
  obtain ⟨a, c, rfl, hc, hr⟩ := h
  exact ⟨a, c, rfl, hc, hr.keep hk⟩
theorem SL.below {G : Nat → Prop} {w w' : World} {v : Value} {l : List El} (h : SL G w v l) (b : Below w.heap.size w w') : SL G w' v l := h.keep fun k hk _ => b.block k hk
theorem SL.drewN {G : Nat → Prop} {w : World} {v : Value} {l : List El} (h : SL G w v l) (n : Nat) : SL G (w.drewN n) v l := h.keep fun _ _ _ => rfl
theorem SL.fr {F : Nat → Prop} {w w' : World} {v : Value} {l : List El} (h : SL (fun k => ¬ F k) w v l) (f : Fr F w w') : SL (fun k => ¬ Gr F w k) w' v l := by
  obtain ⟨a, c, rfl, hc, hr⟩ := h
  refine ⟨a, c, rfl, hc, (hr.lt.keep fun k hk hn => f.block k hk hn.1).mono fun k _ hn e => ?_⟩
  rcases e with e | e
  · exact hn.1 e
  · exact absurd hn.2 (by omega)
theorem SL.nil (G : Nat → Prop) (w : World) : SL G w (.slice none 0 0) [] := ⟨none, 0, rfl, Nat.le_refl _, .inl rfl⟩


/-- a new row from block B on that reads as l -/
def NR (B : Nat) (w : World) (v : Value) (l : List El) : Prop := (v = .slice none 0 0 ∧ l = []) ∨ ∃ g c cur, v = .slice (some ⟨g, 0, none⟩) l.length c ∧ B ≤ g ∧ w.heap[g]? = some (.cells cur 9 (0, 0)) ∧ cur.size = c ∧ l.length ≤ c ∧ cur.toList.take l.length = l.map V
theorem row_at {cur : Array Value} {l : List El} (h : cur.toList.take l.length = l.map V) {j : Nat} {x : El} (hj : l[j]? = some x) : cur[j]? = some (V x) := by
  have hl : j < l.length := (List.getElem?_eq_some_iff.1 hj).1
  have h1 : (cur.toList.take l.length)[j]? = (l.map V)[j]? := by rw [h]
  rw [List.getElem?_take_of_lt hl, List.getElem?_map, hj, Array.getElem?_toList] at h1
  exact h1
theorem NR.sl {B : Nat} {w : World} {v : Value} {l : List El} (h : NR B w v l) : SL (fun k => B ≤ k) w v l := by
  rcases h with ⟨rfl, rfl⟩ | ⟨g, c, cur, rfl, hB, hr, hx, hl, ht⟩
  · exact SL.nil _ _
  · refine ⟨_, _, rfl, hl, .inr ⟨g, 0, rfl, hB, fun j x hj => ?_⟩⟩
    rw [Lib.cell_of_heap hr, Nat.zero_add]
    exact row_at ht hj
theorem NR.keep {B : Nat} {w w' : World} {v : Value} {l : List El} (h : NR B w v l) (hk : ∀ k, k < w.heap.size → B ≤ k → w'.heap[k]? = w.heap[k]?) : NR B w' v l := by
  rcases h with h | ⟨g, c, cur, rfl, hB, hr, hx, hl, ht⟩
  · exact .inl h
  · exact .inr ⟨g, c, cur, rfl, hB, (hk g (lt_of hr) hB).trans hr, hx, hl, ht⟩
theorem NR.below {B : Nat} {w w' : World} {v : Value} {l : List El} (h : NR B w v l) (b : Below w.heap.size w w') : NR B w' v l := h.keep fun k hk _ => b.block k hk
theorem NR.drewN {B : Nat} {w : World} {v : Value} {l : List El} (h : NR B w v l) (n : Nat) : NR B (w.drewN n) v l := h.keep fun _ _ _ => rfl
theorem NR.mono {B B' : Nat} {w : World} {v : Value} {l : List El} (h : NR B w v l) (hB : B' ≤ B) : NR B' w v l := by
  rcases h with h | ⟨g, c, cur, rfl, hb, r⟩
  · exact .inl h
  · exact .inr ⟨g, c, cur, rfl, Nat.le_trans hB hb, r⟩
theorem NR.shape {B : Nat} {w : World} {v : Value} {l : List El} (h : NR B w v l) : ∃ a c, v = .slice a l.length c ∧ l.length ≤ c := by
  rcases h with ⟨rfl, rfl⟩ | ⟨g, c, cur, rfl, hb, hr, hx, hl, ht⟩
  · exact ⟨none, 0, rfl, Nat.le_refl _⟩
  · exact ⟨_, c, rfl, hl⟩
theorem NR.of_owns {B : Nat} {w : World} {v : Value} {l : List El} (h : w.ownsRow B 9 1 v l.length (l.map V)) : NR B w v l := by
  rcases h.2 with ⟨rfl, h0⟩ | ⟨g, c, cur, rfl, hb, hr, h1, h2, h3, h4⟩
  · exact .inl ⟨rfl, List.length_eq_zero_iff.1 h0⟩
  · exact .inr ⟨g, c, cur, rfl, hb, hr, by simpa using h3, h1, by simpa using h4⟩
theorem Rd.get {G : Nat → Prop} {w : World} {a : Option Addr} {l : List El} (h : Rd G w a l) (hl : 0 < l.length) : ∃ g o, a = some ⟨g, o, none⟩ ∧ G g ∧ ∀ j x, l[j]? = some x → w.cell? ⟨g, o + j, none⟩ = some (V x) := by
  rcases h with e | q
  · rw [e] at hl; simp at hl
  · exact q
theorem sl_new (w : World) (l : List El) : SL (fun k => w.heap.size ≤ k) (w.alloc (.cells (l.map V).toArray 9)) (.slice (some ⟨w.heap.size, 0, none⟩) l.length l.length) l := by
  refine ⟨_, _, rfl, Nat.le_refl _, .inr ⟨w.heap.size, 0, rfl, Nat.le_refl _, fun j x hj => ?_⟩⟩
  rw [Lib.cell_of_heap (heap_alloc_new w _), Nat.zero_add]
  simp [hj]
theorem SL.len {G : Nat → Prop} {w : World} {v : Value} {l : List El} (h : SL G w v l) : ∃ a c, v = .slice a l.length c ∧ l.length ≤ c := by
  obtain ⟨a, c, e, hc, _⟩ := h
  exact ⟨a, c, e, hc⟩
/- append -/
theorem info9 : (Tryz.prog.info? 9).map (fun i => (i.zero, i.size, i.bytes)) = some (some (V Z), 1, 16) := by kernel_rfl
theorem rd_src {G : Nat → Prop} {w : World} {a : Option Addr} {l : List El} (h : Rd G w a l) (hl : l ≠ []) (c : Nat) : Src Tryz.prog 1 26 (.slice a l.length c) l.length (l.map V) w := by
  rcases h with rfl | ⟨g, o, rfl, _, hc⟩
  · exact absurd rfl hl
  · refine Src.ofSlice (P := Tryz.prog) w Tryz.underlying26 ⟨g, o, none⟩ l.length c (l.map V) (by simp) (fun j u hj => ?_) (fun u hu => by
      obtain ⟨x, _, rfl⟩ := List.mem_map.1 hu
      rfl)
    rw [List.getElem?_map] at hj
    obtain ⟨x, hx, rfl⟩ := Option.map_eq_some_iff.1 hj
    rw [add_off]
    exact hc j x hx
/-- a list appended to a new row -/
theorem app_any {G : Nat → Prop} {B : Nat} {w : World} {v : Value} {l m : List El} {a : Option Addr} {c : Nat} (h : NR B w v l) (hm : Rd G w a m) (hb : (l.length + m.length) * 16 ≤ 140737488355328 ∨ (m.length = 1 ∧ l.length * 16 ≤ 140737488355328)) (hB : B ≤ w.heap.size) (ty : TypeId) :
    ∃ v' w', (Builtin.append_ #[26, 26] ty #[v, .slice a m.length c]).run Tryz.prog w = .ok v' w' ∧ NR B w' v' (l ++ m) ∧ Below B w w' := by
  obtain ⟨i, hi, hz0, hz1, hz2⟩ := info_parts info9
  by_cases hl : m = []
  · subst hl
    refine ⟨v, w, ?_, by simpa using h, Below.refl _ _⟩
    have hld : ∀ x, (loadCells x 0).run Tryz.prog w = .ok #[] w := fun x => by simpa using run_loadCells_list (P := Tryz.prog) w x [] (by simp)
    rcases h with ⟨rfl, rfl⟩ | ⟨g, cp, xs, rfl, hBg, hr, hx, hlc, ht⟩
    · cases a <;> simp [Builtin.append_, run_underlying Tryz.underlying26, Builtin.lenOf, Builtin.firstCells, sizeOf, typeInfo, hi, hz1, hld]
    · cases a <;> simp [Builtin.append_, run_underlying Tryz.underlying26, Builtin.lenOf, Builtin.firstCells, sizeOf, typeInfo, hi, hz1, hld, hlc, storeCells]
  · have hp : 0 < m.length := List.length_pos_iff.2 hl
    have hs : Src Tryz.prog i.size 26 (.slice a m.length c) m.length (m.map V) w := by rw [hz1]; exact rd_src hm hl c
    by_cases hroom : ∃ g cp cur, v = .slice (some ⟨g, 0, none⟩) l.length cp ∧ B ≤ g ∧ w.heap[g]? = some (.cells cur 9 (0, 0)) ∧ cur.size = cp ∧ cur.toList.take l.length = l.map V ∧ l.length + m.length ≤ cp
    · obtain ⟨g, cp, cur, rfl, hBg, hr, hx, ht, hrm⟩ := hroom
      have hst := run_storeCells_at Tryz.prog g l.length 9 (m.map V) 0 cur w hr (by rw [List.length_map]; omega) (fun v hv => by
        obtain ⟨x, _, rfl⟩ := List.mem_map.1 hv
        rfl)
      simp only [Nat.add_zero] at hst
      have hcl := hs.cells
      rw [hz1] at hcl
      refine ⟨.slice (some ⟨g, 0, none⟩) (l.length + m.length) cp, _, ?_, .inr ⟨g, cp, _, by rw [List.length_append], hBg, setRow_heap w g cur (cur.toList.take l.length ++ m.map V ++ cur.toList.drop (l.length + (m.map V).length)).toArray 9 (0, 0) hr, by simp; omega, by rw [List.length_append]; exact hrm, ?_⟩, ?_⟩
      · simp [Builtin.append_, run_underlying Tryz.underlying26, Builtin.lenOf, sizeOf, typeInfo, hi, hz1, hrm, hcl, Addr.add_lit]
        simp at hst
        rw [hst]
        simp
      · rw [ht, ← List.map_append]
        exact List.take_left' (by simp)
      · exact (Fr.row (F := fun k => k = g) rfl _).below (Nat.le_trans hB (Nat.le_refl _)) fun k e => by rw [e]; exact hBg
    · have hg : ∃ ba cp, v = .slice ba l.length cp ∧ l.length ≤ cp ∧ cp < l.length + m.length ∧ (Builtin.firstCells i.size l.length (.slice ba l.length cp)).run Tryz.prog w.drew = .ok (l.map V).toArray w.drew := by
        rcases h with ⟨rfl, rfl⟩ | ⟨g, cp, cur, rfl, hBg, hr, hx, hlc, ht⟩
        · exact ⟨none, 0, rfl, Nat.le_refl _, by simpa using hp, by simp [Builtin.firstCells]⟩
        · refine ⟨_, cp, rfl, hlc, ?_, ?_⟩
          · rcases Nat.lt_or_ge cp (l.length + m.length) with q | q
            · exact q
            · exact absurd ⟨g, cp, cur, rfl, hBg, hr, hx, ht, q⟩ hroom
          · refine run_firstCells_some (P := Tryz.prog) w.drew i.size l.length ⟨g, 0, none⟩ l.length cp (l.map V) (by simp [hz1]) ?_
            intro j y hj
            rw [List.getElem?_map] at hj
            obtain ⟨x, hx1, rfl⟩ := Option.map_eq_some_iff.1 hj
            rw [add_off, Nat.zero_add]
            show w.cell? ⟨g, j, none⟩ = _
            rw [Lib.cell_of_heap hr]
            exact row_at ht hx1
      obtain ⟨ba, cp, rfl, hlc, hlt, hold⟩ := hg
      have hfit : Builtin.nextslicecap (l.length + m.length) cp * i.bytes ≤ 281474976710656 := by
        rw [hz2]
        rcases hb with hb | ⟨h1, h2⟩
        · exact growslice_fits hlt hb
        · obtain rfl : cp = l.length := by omega
          rw [h1]
          exact growslice_fits_succ h2 (by decide)
      have hr := run_append_grow_src (P := Tryz.prog) w 26 26 ty 9 i (V Z) Tryz.underlying26 hi hz0 ba l.length cp (l.map V) hold (.slice a m.length c) m.length (m.map V) hs hlt (by omega) hfit
      have hge := grownCap_ge w (l.length + m.length) cp 9
      refine ⟨_, _, hr, .inr ⟨w.heap.size, grownCap w (l.length + m.length) cp 9, _, by rw [List.length_append], hB, heap_alloc_new w.drew _, ?_, by rw [List.length_append]; exact hge, ?_⟩, (Below.refl _ w).drew.alloc hB _⟩
      · simp [Builtin.zeroCells, Value.cells]
        omega
      · rw [Array.toList_append, List.map_append]
        exact List.take_left' (by simp)
/-- append(l, x) -/
theorem app_one {B : Nat} {w : World} {v : Value} {l : List El} (x : El) (h : NR B w v l) (hb : l.length * 16 ≤ 140737488355328) (hB : B ≤ w.heap.size) (ty : TypeId) :
    ∃ v' w', (Builtin.append_ #[26, 26] ty #[v, .slice (some ⟨w.heap.size, 0, none⟩) 1 1]).run Tryz.prog (w.alloc (.cells #[V x] 9)) = .ok v' w' ∧ NR B w' v' (l ++ [x]) ∧ Below B w w' := by
  have b1 := (Below.refl w.heap.size w).alloc (Nat.le_refl _) (.cells #[V x] 9)
  have hm : Rd (fun _ => True) (w.alloc (.cells #[V x] 9)) (some ⟨w.heap.size, 0, none⟩) [x] := by
    refine .inr ⟨w.heap.size, 0, rfl, trivial, fun j y hj => ?_⟩
    rw [Lib.cell_of_heap (heap_alloc_new w _)]
    cases j with
    | zero => simp at hj; subst hj; rfl
    | succ j => simp at hj
  obtain ⟨v', w', h1, h2, h3⟩ := app_any (c := 1) (h.below b1) hm (.inr ⟨rfl, hb⟩) (Nat.le_trans hB b1.size) ty
  exact ⟨v', w', h1, h2, (b1.mono hB).trans h3⟩
section
variable {ops : Array Oper} {rest : List Oper} {o : Oper} {a : Act} {Q : Exit → Act → World → Prop}
theorem wpl_eq (hgd : o.guard = none) (s x : Operand) (t tx : TypeId) (ho : o.op = .call { callee := .builtin .append, args := #[s, x], argTypes := #[t, tx] }) (v u v' : Value) (W W' : World) (hs : a.eval s = v) (hx : a.eval x = u)
    (hr : (Builtin.append_ #[t, tx] o.type #[v, u]).run Tryz.prog W = .ok v' W') (hK : wpList Tryz.prog ops Q rest (a.put o.dst v') W') : wpList Tryz.prog ops Q (o :: rest) a W := by
  refine wpList_plain hgd fun K hK2 => ?_
  unfold Oper.wp execOp
  simp only [ho, resolve, invoke, builtin, Sem.run_bind, Sem.run_pure, Result.andThen_ok, List.map_toArray, List.map_cons, List.map_nil, hs, hx, hr]
  exact hK2 _ _ hK
end
end Go.Proofs.YtminfpkigenahaaGreatDoor.Base
end
section
namespace Go.Proofs.YtminfpkigenahaaGreatDoor.Before
open Go.RowKit
open Go.Proofs.YtminfpkigenahaaGreatDoor.HeapMath
open Go.Proofs.YtminfpkigenahaaGreatDoor.Base (mk mk_list)
set_option linter.unusedVariables false
set_option linter.unusedSimpArgs false
abbrev Bs := List UInt8
/-- what a key asks of its order -/
structure Keys {κ : Type} (lt : κ → κ → Prop) : Prop where
  irr : ∀ a, ¬ lt a a
  trans : ∀ a b c, lt a b → lt b c → lt a c
  tot : ∀ a b, a ≠ b → lt a b ∨ lt b a
def entLt {κ : Type} (lt : κ → κ → Prop) (a b : κ × Int) : Prop := if a.2 = b.2 then lt a.1 b.1 else a.2 < b.2
instance {κ : Type} (lt : κ → κ → Prop) [DecidableRel lt] : DecidableRel (entLt lt) := fun a b => by unfold entLt; exact inferInstance
theorem ent_keys {κ : Type} {lt : κ → κ → Prop} (h : Keys lt) : Keys (entLt lt) := by
  refine ⟨fun a => ?_, fun a b c => ?_, fun a b hne => ?_⟩
  · unfold entLt; rw [if_pos rfl]; exact h.irr _
  · unfold entLt
    intro h1 h2
    by_cases q1 : a.2 = b.2
    · rw [if_pos q1] at h1
      by_cases q2 : b.2 = c.2
      · rw [if_pos q2] at h2; rw [if_pos (q1.trans q2)]; exact h.trans _ _ _ h1 h2
      · rw [if_neg q2] at h2; rw [if_neg (by omega)]; omega
    · rw [if_neg q1] at h1
      by_cases q2 : b.2 = c.2
      · rw [if_neg (by omega)]; omega
      · rw [if_neg q2] at h2; rw [if_neg (by omega)]; omega
  · unfold entLt
    by_cases q : a.2 = b.2
    · rw [if_pos q, if_pos q.symm]
      exact h.tot _ _ (fun e => hne (Prod.ext e q))
    · rw [if_neg q, if_neg (Ne.symm q)]
      omega
theorem ent_sto {κ : Type} {lt : κ → κ → Prop} (h : Keys lt) : STO (entLt lt) := STO.of_tot (ent_keys h).irr (ent_keys h).trans (ent_keys h).tot
theorem keysI : Keys (fun a b : Int => a < b) := ⟨fun a => Int.lt_irrefl a, fun a b c => Int.lt_trans, fun a b h => by omega⟩
theorem keysS : Keys (fun a b : Bs => a < b) := ⟨fun a => List.lt_irrefl a, fun a b c => List.lt_trans, fun a b h => by
  rcases Decidable.em (a < b) with q | q
  · exact .inl q
  · rcases Decidable.em (b < a) with r | r
    · exact .inr r
    · exact absurd (List.le_antisymm r q) h⟩
abbrev ltS : Bs × Int → Bs × Int → Prop := entLt (fun a b : Bs => a < b)
abbrev ltI : Int × Int → Int × Int → Prop := entLt (fun a b : Int => a < b)
def eS (e : Bs × Int) : Value := .agg #[.string (mk e.1), .int .i64 e.2]
def eI (e : Int × Int) : Value := .agg #[.int .i64 e.1, .int .i64 e.2]
set_option maxHeartbeats 1000000 in
set_option maxRecDepth 100000 in
theorem beforeS (a b : Bs × Int) (w : World) : Calls Tryz.prog 217 #[eS a, eS b] w fun e w' => e = .returned (.bool (decide (ltS a b))) ∧ Below w.heap.size w w' := by
  obtain ⟨k, s⟩ := a
  obtain ⟨l, t⟩ := b
  unfold eS ltS entLt
  dsimp only
  by_cases h : s = t
  · subst h
    have e1 : (s == s) = true := by simp
    have e2 : Op.bytesLess (mk k).toList (mk l).toList = decide (k < l) := by rw [mk_list, mk_list]; exact bytesLess_eq _ _
    go_enter Tryz.func217, Tryz.ntmps217
    go_wp2_with fail
    go_ret
    refine ⟨?_, ((Below.refl _ w).alloc (Nat.le_refl _) _).alloc (by simp) _⟩
    rfl
  · have e1 : (s == t) = false := by rw [beq_eq_false_iff_ne]; exact h
    go_enter Tryz.func217, Tryz.ntmps217
    go_wp2_with fail
    go_ret
    refine ⟨?_, ((Below.refl _ w).alloc (Nat.le_refl _) _).alloc (by simp) _⟩
    rfl
end Go.Proofs.YtminfpkigenahaaGreatDoor.Before
end
section
namespace Go.Proofs.YtminfpkigenahaaGreatDoor.Spots
open Go.RowKit Go.Maps
open Go.Proofs.YtminfpkigenahaaGreatDoor.HeapMath
open Go.Proofs.YtminfpkigenahaaGreatDoor.Heap
set_option linter.unusedVariables false
set_option linter.unusedSimpArgs false
section
variable {κ : Type} [Inhabited κ] {lit : κ → Lit}
/-- keys as the map reads them -/
structure Lits (lit : κ → Lit) : Prop where
  inj : ∀ a b, lit a = lit b → a = b
  key : ∀ a, WideAt.IsKeyLit (lit a)
structure Spots (lit : κ → Lit) (D : DataW Unit) (l : List (κ × Int)) : Prop where
  size : Maps.size D = l.length
  some : ∀ i, i < l.length → Maps.has D (lit (pl l i).1) = true ∧ ∀ z, D.atKey (lit (pl l i).1) z = .lit (.int .i64 (i : Int))
  none : ∀ k, (∀ i, i < l.length → (pl l i).1 ≠ k) → Maps.has D (lit k) = false
/-- no key stands twice -/
def Apart (l : List (κ × Int)) : Prop := ∀ i j, i < l.length → j < l.length → (pl l i).1 = (pl l j).1 → i = j
abbrev num (i : Nat) : DataW Unit := .lit (.int .i64 (i : Int))
theorem Apart.swp {l : List (κ × Int)} (h : Apart l) {i j : Nat} (hi : i < l.length) (hj : j < l.length) : Apart (swp l i j) := by
  intro a b ha hb e
  rw [swp_len] at ha hb
  rw [swp_at hi hj, swp_at hi hj] at e
  by_cases a1 : a = j <;> by_cases a2 : a = i <;> by_cases b1 : b = j <;> by_cases b2 : b = i <;> simp only [a1, a2, b1, b2, if_true, if_false] at e <;> (try subst a1) <;> (try subst a2) <;> (try subst b1) <;> (try subst b2) <;> (try rfl) <;> (try simp_all) <;> (have := h _ _ (by assumption) (by assumption) e; omega)
theorem Spots.swp {D : DataW Unit} {l : List (κ × Int)} (h : Spots lit D l) (L : Lits lit) (T : Tidy D) (A : Apart l) {i j : Nat} (hi : i < l.length) (hj : j < l.length) :
    Spots lit ((D.put (lit (pl l j).1) (num i)).put (lit (pl l i).1) (num j)) (swp l i j) ∧ Tidy ((D.put (lit (pl l j).1) (num i)).put (lit (pl l i).1) (num j)) := by
  have T1 := T.put (L.key (pl l j).1) (num i)
  have T2 := T1.put (L.key (pl l i).1) (num j)
  refine ⟨⟨?_, fun k hk => ?_, fun k hk => ?_⟩, T2⟩
  · have h1 : Maps.has (D.put (lit (pl l j).1) (num i)) (lit (pl l i).1) = true := by
      by_cases q : lit (pl l i).1 = lit (pl l j).1
      · rw [q]; exact has_put_same T.isMap (L.key _) _
      · rw [has_put_other q]; exact (h.some i hi).1
    rw [size_put T1, if_pos h1, size_put T, if_pos (h.some j hj).1, swp_len]
    exact h.size
  · rw [swp_len] at hk
    rw [swp_at hi hj]
    by_cases q1 : k = j
    · subst q1
      rw [if_pos rfl]
      exact ⟨has_put_same T1.isMap (L.key _) _, fun z => atKey_put_same T1.isMap (L.key _) _ z⟩
    · rw [if_neg q1]
      by_cases q2 : k = i
      · subst q2
        rw [if_pos rfl]
        have ne : lit (pl l j).1 ≠ lit (pl l k).1 := fun e => q1 (A k j hk hj (L.inj _ _ e).symm)
        rw [has_put_other ne]
        refine ⟨has_put_same T.isMap (L.key _) _, fun z => ?_⟩
        rw [atKey_put_other ne]
        exact atKey_put_same T.isMap (L.key _) _ z
      · rw [if_neg q2]
        have ne1 : lit (pl l k).1 ≠ lit (pl l i).1 := fun e => q2 (A k i hk hi (L.inj _ _ e))
        have ne2 : lit (pl l k).1 ≠ lit (pl l j).1 := fun e => q1 (A k j hk hj (L.inj _ _ e))
        rw [has_put_other ne1, has_put_other ne2]
        refine ⟨(h.some k hk).1, fun z => ?_⟩
        rw [atKey_put_other ne1, atKey_put_other ne2]
        exact (h.some k hk).2 z
  · have hi2 := hk j (by rw [swp_len]; exact hj)
    have hj2 := hk i (by rw [swp_len]; exact hi)
    rw [swp_at hi hj, if_pos rfl] at hi2
    have ne1 : lit k ≠ lit (pl l i).1 := fun e => hi2 (L.inj _ _ e).symm
    have ne2 : lit k ≠ lit (pl l j).1 := fun e => by
      rw [swp_at hi hj] at hj2
      by_cases q : i = j
      · subst q; exact ne1 e
      · rw [if_neg q, if_pos rfl] at hj2; exact hj2 (L.inj _ _ e).symm
    rw [has_put_other ne1, has_put_other ne2]
    refine h.none k fun m hm e => ?_
    by_cases q1 : m = i
    · subst q1; exact hi2 e
    · by_cases q2 : m = j
      · subst q2; exact ne2 (by rw [e])
      · have := hk m (by rw [swp_len]; exact hm)
        rw [swp_at hi hj, if_neg q2, if_neg q1] at this
        exact this e
theorem Apart.push {l : List (κ × Int)} (h : Apart l) {a : κ × Int} (ha : ∀ i, i < l.length → (pl l i).1 ≠ a.1) : Apart (l ++ [a]) := by
  intro i j hi hj e
  simp at hi hj
  rw [pl_app, pl_app] at e
  by_cases q1 : i = l.length <;> by_cases q2 : j = l.length
  · omega
  · rw [if_pos q1, if_neg q2] at e; exact absurd e.symm (ha j (by omega))
  · rw [if_neg q1, if_pos q2] at e; exact absurd e (ha i (by omega))
  · rw [if_neg q1, if_neg q2] at e; exact h i j (by omega) (by omega) e
theorem Spots.push {D : DataW Unit} {l : List (κ × Int)} (h : Spots lit D l) (L : Lits lit) (T : Tidy D) {a : κ × Int} (ha : ∀ i, i < l.length → (pl l i).1 ≠ a.1) :
    Spots lit (D.put (lit a.1) (num l.length)) (l ++ [a]) ∧ Tidy (D.put (lit a.1) (num l.length)) := by
  refine ⟨⟨?_, fun k hk => ?_, fun k hk => ?_⟩, T.put (L.key _) _⟩
  · rw [size_put T, if_neg (by rw [h.none _ ha]; simp), h.size]; simp
  · simp at hk
    rw [pl_app]
    by_cases q : k = l.length
    · rw [if_pos q, q]
      exact ⟨has_put_same T.isMap (L.key _) _, fun z => atKey_put_same T.isMap (L.key _) _ z⟩
    · rw [if_neg q]
      have ne : lit (pl l k).1 ≠ lit a.1 := fun e => ha k (by omega) (L.inj _ _ e)
      rw [has_put_other ne]
      refine ⟨(h.some k (by omega)).1, fun z => ?_⟩
      rw [atKey_put_other ne]
      exact (h.some k (by omega)).2 z
  · have h1 := hk l.length (by simp)
    rw [pl_app, if_pos rfl] at h1
    rw [has_put_other (fun e => h1 (L.inj _ _ e).symm)]
    refine h.none k fun m hm => ?_
    have := hk m (by simp; omega)
    rw [pl_app, if_neg (by omega)] at this
    exact this
theorem Apart.take {l : List (κ × Int)} (h : Apart l) (n : Nat) : Apart (l.take n) := by
  intro i j hi hj e
  rw [List.length_take] at hi hj
  rw [pl_take (by omega), pl_take (by omega)] at e
  exact h i j (by omega) (by omega) e
theorem Spots.pop {D : DataW Unit} {l : List (κ × Int)} (h : Spots lit D l) (L : Lits lit) (T : Tidy D) (A : Apart l) (h0 : 0 < l.length) :
    Spots lit (D.del (lit (pl l (l.length - 1)).1)) (l.take (l.length - 1)) := by
  have e0 : (l.take (l.length - 1)).length = l.length - 1 := by rw [List.length_take]; omega
  refine ⟨?_, fun k hk => ?_, fun k hk => ?_⟩
  · have := size_del (k := lit (pl l (l.length - 1)).1) T
    rw [if_pos (h.some _ (by omega)).1, h.size] at this
    rw [e0]; omega
  · rw [e0] at hk
    rw [pl_take hk]
    have ne : lit (pl l k).1 ≠ lit (pl l (l.length - 1)).1 := fun e => by
      have := A k (l.length - 1) (by omega) (by omega) (L.inj _ _ e); omega
    rw [has_del_other ne]
    refine ⟨(h.some k (by omega)).1, fun z => ?_⟩
    rw [atKey_del_other ne]
    exact (h.some k (by omega)).2 z
  · by_cases q : k = (pl l (l.length - 1)).1
    · rw [q]; exact has_del_same
    · rw [has_del_other (fun e => q (L.inj _ _ e))]
      refine h.none k fun m hm e => ?_
      by_cases q2 : m = l.length - 1
      · rw [q2] at e; exact q e.symm
      · exact hk m (by rw [e0]; omega) (by rw [pl_take (by omega)]; exact e)
theorem keys_set {l : List (κ × Int)} {i : Nat} (hi : i < l.length) (t : Int) (k : Nat) : (pl (l.set i ((pl l i).1, t)) k).1 = (pl l k).1 := by
  rw [pl_set hi]
  by_cases q : k = i
  · rw [if_pos q, q]
  · rw [if_neg q]
theorem Apart.set {l : List (κ × Int)} (h : Apart l) {i : Nat} (hi : i < l.length) (t : Int) : Apart (l.set i ((pl l i).1, t)) := by
  intro a b ha hb e
  rw [keys_set hi, keys_set hi] at e
  simp at ha hb
  exact h a b ha hb e
theorem Spots.set {D : DataW Unit} {l : List (κ × Int)} (h : Spots lit D l) {i : Nat} (hi : i < l.length) (t : Int) : Spots lit D (l.set i ((pl l i).1, t)) := by
  refine ⟨by simpa using h.size, fun k hk => ?_, fun k hk => ?_⟩
  · rw [keys_set hi]; exact h.some k (by simpa using hk)
  · refine h.none k fun m hm => ?_
    have := hk m (by simpa using hm)
    rw [keys_set hi] at this
    exact this
end
theorem litS : Lits (fun k : List UInt8 => Lit.string k) := ⟨fun a b e => by cases e; rfl, fun a => by simp [WideAt.IsKeyLit]⟩
theorem litI : Lits (fun k : Int => Lit.int .i64 k) := ⟨fun a b e => by cases e; rfl, fun a => by simp [WideAt.IsKeyLit]⟩
end Go.Proofs.YtminfpkigenahaaGreatDoor.Spots
end
section
namespace Go.Proofs.YtminfpkigenahaaGreatDoor.Turn
open Go.RowKit Go.Maps
set_option linter.unusedVariables false
set_option linter.unusedSimpArgs false
theorem lt_of {w : World} {b : Nat} {o : Obj} (h : w.heap[b]? = some o) : b < w.heap.size := (Array.getElem?_eq_some_iff.1 h).1

/- what kind of block -/
def kd (w : World) (k : Nat) : Nat := match w.heap[k]? with
  | some (.cells _ t _) => t + 2
  | some (.map _ _) => 1
  | _ => 0
theorem kd_cells {w : World} {k : Nat} {cs : Array Value} {t : TypeId} {fz : Nat × Nat} (h : w.heap[k]? = some (.cells cs t fz)) : kd w k = t + 2 := by unfold kd; rw [h]
theorem kd_map {w : World} {k : Nat} {es : Array MapEntry} {c : Nat} (h : w.heap[k]? = some (.map es c)) : kd w k = 1 := by unfold kd; rw [h]
theorem kd_eq {w w' : World} {k : Nat} (h : w'.heap[k]? = w.heap[k]?) : kd w' k = kd w k := by unfold kd; rw [h]
/- the blocks of M may turn -/
structure Ev (M : Nat → Prop) (w w' : World) : Prop where
  os : w'.os = w.os
  tape : w'.tape = w.tape
  output : w'.output = w.output
  size : w.heap.size ≤ w'.heap.size
  block : ∀ k, k < w.heap.size → ¬ M k → w'.heap[k]? = w.heap[k]?
theorem Ev.refl (M : Nat → Prop) (w : World) : Ev M w w := ⟨rfl, rfl, rfl, Nat.le_refl _, fun _ _ _ => rfl⟩
theorem Ev.trans {M : Nat → Prop} {a b c : World} (h : Ev M a b) (k : Ev M b c) : Ev M a c :=
  ⟨k.os.trans h.os, k.tape.trans h.tape, k.output.trans h.output, Nat.le_trans h.size k.size,
    fun i hi ht => (k.block i (Nat.lt_of_lt_of_le hi h.size) ht).trans (h.block i hi ht)⟩
theorem Ev.mono {M N : Nat → Prop} {a b : World} (h : Ev M a b) (hM : ∀ k, k < a.heap.size → M k → N k) : Ev N a b := ⟨h.os, h.tape, h.output, h.size, fun k hk hn => h.block k hk (fun e => hn (hM k hk e))⟩
theorem Ev.of_below {M : Nat → Prop} {a b : World} (h : Below a.heap.size a b) : Ev M a b := ⟨h.os, h.tape, h.output, h.size, fun k hk _ => h.block k hk⟩
theorem Ev.below {M : Nat → Prop} {base : Nat} {a b : World} (h : Ev M a b) (hb : base ≤ a.heap.size) (hM : ∀ k, M k → base ≤ k) : Below base a b := ⟨h.os, h.tape, h.output, h.size, fun k hk => h.block k (by omega) (fun e => by have := hM k e; omega)⟩
theorem Ev.alloc {M : Nat → Prop} {a b : World} (h : Ev M a b) (o : Obj) : Ev M a (b.alloc o) := h.trans (Ev.of_below ((Below.refl _ b).alloc (Nat.le_refl _) o))
theorem Ev.drew {M : Nat → Prop} {a b : World} (h : Ev M a b) : Ev M a b.drew := ⟨h.os, h.tape, h.output, h.size, h.block⟩
theorem Ev.drewN {M : Nat → Prop} {a b : World} (h : Ev M a b) (n : Nat) : Ev M a (b.drewN n) := ⟨h.os, h.tape, h.output, h.size, h.block⟩
theorem set_at {w : World} {b i : Nat} {cs : Array Value} {ty : TypeId} {fz : Nat × Nat} (h : w.heap[b]? = some (.cells cs ty fz)) (v : Value) : (w.setCell ⟨b, i, none⟩ v).heap[b]? = some (.cells (cs.setIfInBounds i v) ty fz) := by
  have e2 : (w.setCell ⟨b, i, none⟩ v).heap[b]? = (w.heap[b]?).map (fun | .cells c elem frozen => .cells (if (none : Option Nat).isSome then c else c.setIfInBounds i v) elem frozen | o => o) := by
    show (w.heap.modify b _)[b]? = _
    rw [Array.getElem?_modify, if_pos rfl]
    rfl
  rw [e2, h]; rfl
theorem set_ne {w : World} {b i k : Nat} (h : k ≠ b) (v : Value) : (w.setCell ⟨b, i, none⟩ v).heap[k]? = w.heap[k]? := Below.heap_setCell _ _ _ _ h
theorem size_set {w : World} (p : Addr) (v : Value) : (w.setCell p v).heap.size = w.heap.size := by simp [World.setCell]
/- a world in which one block of M has turned -/
theorem Ev.one {M : Nat → Prop} {w w' : World} {g : Nat} (h : w.grownBy w' (some g)) (hb : M g) : Ev M w w' :=
  ⟨h.os, h.tape, h.output, h.size, fun k hk hT => h.block k hk (by rintro x; cases x; exact hT hb)⟩
theorem Ev.set {M : Nat → Prop} {w : World} {g i : Nat} (hb : M g) (v : Value) : Ev M w (w.setCell ⟨g, i, none⟩ v) := by
  have e0 : Below 0 w (w.setCell ⟨g, i, none⟩ v) := (Below.refl 0 w).setCell (Nat.zero_le _) v
  exact ⟨e0.os, e0.tape, e0.output, e0.size, fun k hk hn => set_ne (fun x => hn (by rw [x]; exact hb)) v⟩
theorem Ev.turned {M : Nat → Prop} {w w' : World} {b : Nat} (h : w.mapTurned w' b) (hb : M b) : Ev M w w' := Ev.one h.grown hb
theorem Ev.none {M : Nat → Prop} {w w' : World} (h : w.grownBy w' Option.none) : Ev M w w' := ⟨h.os, h.tape, h.output, h.size, fun k hk _ => h.block k hk (by simp)⟩
end Go.Proofs.YtminfpkigenahaaGreatDoor.Turn
end
