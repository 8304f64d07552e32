/- Lists of texts in memory: lists that are read, new rows, what a call may touch. -/
import Derived.Test.YtdcnkdkhanmklabProg
import Derived.Test.YtdcnkdkhanmklabSetMath
import Derived.WalkKit
import Derived.WalkSmall
import Derived.WalkLawsBesides
import Derived.WalkSpells
import Derived.BigQuiet
import Derived.BigRegion
import Derived.Below
import Derived.OwnWalk
import Derived.Lib.SliceRun
import Derived.Lib.Builder
import Derived.Lib.Strings
import Derived.Laws.OwnMore
import Derived.Laws.CopyRow
import Derived.Deep.LoopGhost
import Derived.Deep.RegionWith
import Derived.Deep.RegionHeld3
import Derived.Deep.AppendSrc
import Derived.Sort.OwnSorted
namespace Go.Proofs.Ytdcnkdkhanmklab.Base
open Go.RowKit Go.Sort
open Go.Proofs.Ytdcnkdkhanmklab.SetMath
set_option linter.unusedVariables false
set_option linter.unusedSimpArgs false
abbrev El := Bs
def bs (s : ByteArray) : List UInt8 := s.data.toList
theorem len_bs (s : ByteArray) : (bs s).length = s.size := by unfold bs; simp
def mk (l : List UInt8) : ByteArray := ⟨l.toArray⟩
theorem bs_mk (l : List UInt8) : bs (mk l) = l := rfl
theorem mk_bs (s : ByteArray) : mk (bs s) = s := by cases s; simp [mk, bs]
theorem mk_size (l : List UInt8) : (mk l).size = l.length := by rw [← len_bs, bs_mk]
theorem mk_inj {a b : List UInt8} (h : mk a = mk b) : a = b := by rw [← bs_mk a, ← bs_mk b, h]
theorem mk_list (l : List UInt8) : (mk l).toList = l := by rw [Lib.toList_data]; rfl
theorem str_eq (a b : List UInt8) : ((mk a).toList == (mk b).toList) = decide (a = b) := by
  rw [mk_list, mk_list]
  by_cases h : a = b <;> simp [h]
theorem str_lt (a b : List UInt8) : Op.bytesLess (mk a).toList (mk b).toList = decide (a < b) := by rw [mk_list, mk_list, bytesLess_eq]
abbrev V (x : El) : Value := .string (mk x)
abbrev Z : El := []
theorem enc_V (x : El) : encStr x = V x := rfl
theorem enc_map (l : List El) : l.map encStr = l.map V := rfl
theorem ret_b {a b : Bool} (h : a = b) : Ending.returned (.bool a) = .returned (.bool b) := by rw [h]
theorem hid_of {p : Prop} (h : p) : Hid p := h
theorem lt_of {w : World} {b : Nat} {o : Obj} (h : w.heap[b]? = some o) : b < w.heap.size := (Array.getElem?_eq_some_iff.1 h).1
theorem set_at {w : World} {b i : Nat} {cs : Array Value} {ty : TypeId} {fz : Nat × Nat} (h : w.heap[b]? = some (.cells cs ty fz)) (v : Value) : (w.setCell ⟨b, i, none⟩ v).heap[b]? = some (.cells (cs.setIfInBounds i v) ty fz) := by
  rw [setCell_eq_setRow w b i cs ty fz v h]
  exact setRow_heap w b cs _ ty _ h
theorem set_ne {w : World} {b i k : Nat} (h : k ≠ b) (v : Value) : (w.setCell ⟨b, i, none⟩ v).heap[k]? = w.heap[k]? := Below.heap_setCell _ _ _ _ h
theorem size_set {w : World} (p : Addr) (v : Value) : (w.setCell p v).heap.size = w.heap.size := by simp [World.setCell]
theorem row_ne {w : World} {g k : Nat} {cs : Array Value} (h : k ≠ g) : (w.setRow g cs).heap[k]? = w.heap[k]? := by
  unfold World.setRow
  simp [Array.getElem?_modify, Ne.symm h]
theorem size_row {w : World} {g : Nat} {cs : Array Value} : (w.setRow g cs).heap.size = w.heap.size := by
  unfold World.setRow
  simp
theorem add_off (g o k : Nat) : (⟨g, o, none⟩ : Addr).add k = ⟨g, o + k, none⟩ := Addr.add_lit g o k

/- what a call may touch -/
structure Fr (F : Nat → Prop) (w w' : World) : Prop where
  os : w'.os = w.os
  tape : w'.tape = w.tape
  output : w'.output = w.output
  size : w.heap.size ≤ w'.heap.size
  block : ∀ k, k < w.heap.size → ¬ F k → w'.heap[k]? = w.heap[k]?
def Gr (F : Nat → Prop) (w : World) : Nat → Prop := fun k => F k ∨ w.heap.size ≤ k
theorem Fr.refl (F : Nat → Prop) (w : World) : Fr F w w := ⟨rfl, rfl, rfl, Nat.le_refl _, fun _ _ _ => rfl⟩
theorem Fr.trans {F : Nat → Prop} {a b c : World} (h : Fr F a b) (k : Fr (Gr F a) b c) : Fr F a c :=
  ⟨k.os.trans h.os, k.tape.trans h.tape, k.output.trans h.output, Nat.le_trans h.size k.size, fun i hi hn => (k.block i (Nat.lt_of_lt_of_le hi h.size) (fun e => by
    rcases e with e | e
    · exact hn e
    · omega)).trans (h.block i hi hn)⟩
theorem Fr.mono {F G : Nat → Prop} {a b : World} (h : Fr F a b) (hG : ∀ k, k < a.heap.size → F k → G k) : Fr G a b := ⟨h.os, h.tape, h.output, h.size, fun k hk hn => h.block k hk (fun e => hn (hG k hk e))⟩
theorem Fr.of_below {F : Nat → Prop} {a b : World} (h : Below a.heap.size a b) : Fr F a b := ⟨h.os, h.tape, h.output, h.size, fun k hk _ => h.block k hk⟩
theorem Fr.below {F : Nat → Prop} {a b : World} (h : Fr F a b) {base : Nat} (hb : base ≤ a.heap.size) (hF : ∀ k, F k → base ≤ k) : Below base a b := ⟨h.os, h.tape, h.output, h.size, fun k hk => h.block k (by omega) (fun e => by have := hF k e; omega)⟩
theorem Fr.alloc {F : Nat → Prop} {a b : World} (h : Fr F a b) (o : Obj) : Fr F a (b.alloc o) := h.trans (Fr.of_below ((Below.refl _ b).alloc (Nat.le_refl _) o))
theorem Fr.drew {F : Nat → Prop} {a b : World} (h : Fr F a b) : Fr F a b.drew := ⟨h.os, h.tape, h.output, h.size, h.block⟩
theorem Fr.drewN {F : Nat → Prop} {a b : World} (h : Fr F a b) (n : Nat) : Fr F a (b.drewN n) := ⟨h.os, h.tape, h.output, h.size, h.block⟩
theorem Fr.set {F : Nat → Prop} {w : World} {f i : Nat} (hF : F f) (v : Value) : Fr F w (w.setCell ⟨f, i, none⟩ v) := by
  have e0 : Below 0 w (w.setCell ⟨f, i, none⟩ v) := (Below.refl 0 w).setCell (Nat.zero_le _) v
  exact ⟨e0.os, e0.tape, e0.output, e0.size, fun k hk hn => set_ne (fun e => hn (by rw [e]; exact hF)) v⟩
theorem Fr.row {F : Nat → Prop} {w : World} {g : Nat} (hF : F g) (cs : Array Value) : Fr F w (w.setRow g cs) :=
  ⟨rfl, rfl, rfl, by rw [size_row]; exact Nat.le_refl _, fun k hk hn => row_ne (fun e => hn (by rw [e]; exact hF))⟩
theorem bel_drewN (w : World) (n : Nat) : Below w.heap.size w (w.drewN n) := ⟨rfl, rfl, rfl, Nat.le_refl _, fun _ _ => rfl⟩

/- a slice: its address, its length and its room -/
def ca (a : Option Addr) (c i : Nat) : Option Addr := if c = i then a else a.map (·.add i)
theorem ca_some (g o c i : Nat) (h : i < c) : ca (some ⟨g, o, none⟩) c i = some ⟨g, o + i, none⟩ := by
  unfold ca
  rw [if_neg (by omega)]
  simp [add_off]
theorem ca_zero (a : Option Addr) (c : Nat) : ca a c 0 = a := by
  unfold ca
  by_cases h : c = 0
  · rw [if_pos h]
  · rw [if_neg h]
    cases a with
    | none => rfl
    | some a => simp [Addr.add]
theorem size9 (w : World) : (Go.sizeOf 9).run Try.prog w = .ok 1 w := by kernel_rfl
theorem cut_any (a : Option Addr) (n c i j : Nat) (x y : Int) (hx : x = i) (hy : y = j) (hij : i ≤ j) (hj : j ≤ c) (w : World) :
    (Instr.slice 22 (.slice a n c) (some (.int .i64 x)) (some (.int .i64 y)) none).run Try.prog w = .ok (.slice (ca a c i) (j - i) (c - i)) w := by
  subst hx; subst hy
  have h1 : (i : Int) ≤ j := by omega
  have h2 : (j : Int) ≤ c := by omega
  simp [Instr.slice, run_underlying Try.underlying22, Instr.sliceBounds, run_sliceBound, size9, ca, h1, h2]
theorem cut_lo (a : Option Addr) (n c i : Nat) (x : Int) (hx : x = i) (hi : i ≤ n) (w : World) :
    (Instr.slice 22 (.slice a n c) (some (.int .i64 x)) none none).run Try.prog w = .ok (.slice (ca a c i) (n - i) (c - i)) w := by
  subst hx
  have h1 : (i : Int) ≤ n := by omega
  simp [Instr.slice, run_underlying Try.underlying22, Instr.sliceBounds, run_sliceBound, size9, ca, h1]
theorem cut_hi (a : Option Addr) (n c j : Nat) (y : Int) (hy : y = j) (hj : j ≤ c) (w : World) :
    (Instr.slice 22 (.slice a n c) none (some (.int .i64 y)) none).run Try.prog w = .ok (.slice a j c) w := by
  subst hy
  have h2 : (j : Int) ≤ c := by omega
  have := ca_zero a c
  unfold ca at this
  simp [Instr.slice, run_underlying Try.underlying22, Instr.sliceBounds, run_sliceBound, size9, h2, this]

/-- behind the address a lie the elements l, in a block of which G holds -/
def Rd (G : Nat → Prop) (w : World) (a : Option Addr) (l : List El) : Prop := l = [] ∨ ∃ g o, a = some ⟨g, o, none⟩ ∧ G g ∧ ∀ j x, l[j]? = some x → w.cell? ⟨g, o + j, none⟩ = some (V x)
def SL (G : Nat → Prop) (w : World) (v : Value) (l : List El) : Prop := ∃ a c, v = .slice a l.length c ∧ l.length ≤ c ∧ Rd G w a l
theorem cell_lt {w : World} {p : Addr} {v : Value} (h : w.cell? p = some v) : p.block < w.heap.size := block_lt_of_cell h
theorem Rd.lt {G : Nat → Prop} {w : World} {a : Option Addr} {l : List El} (h : Rd G w a l) : Rd (fun k => G k ∧ k < w.heap.size) w a l := by
  rcases h with rfl | ⟨g, o, rfl, hG, hc⟩
  · exact .inl rfl
  · cases l with
    | nil => exact .inl rfl
    | cons x r => exact .inr ⟨g, o, rfl, ⟨hG, cell_lt (hc 0 x rfl)⟩, hc⟩
theorem Rd.mono {G G' : Nat → Prop} {w : World} {a : Option Addr} {l : List El} (h : Rd G w a l) (hG : ∀ k, k < w.heap.size → G k → G' k) : Rd G' w a l := by
  rcases h.lt with rfl | ⟨g, o, rfl, hg, hc⟩
  · exact .inl rfl
  · exact .inr ⟨g, o, rfl, hG g hg.2 hg.1, hc⟩
theorem Rd.keep {G : Nat → Prop} {w w' : World} {a : Option Addr} {l : List El} (h : Rd G w a l) (hk : ∀ k, k < w.heap.size → G k → w'.heap[k]? = w.heap[k]?) : Rd G w' a l := by
  rcases h.lt with rfl | ⟨g, o, rfl, hg, hc⟩
  · exact .inl rfl
  · exact .inr ⟨g, o, rfl, hg.1, fun j x hj => (World.cell?_of_block (w := w) (hk g hg.2 hg.1)).trans (hc j x hj)⟩
theorem Rd.take {G : Nat → Prop} {w : World} {a : Option Addr} {l : List El} (h : Rd G w a l) (k : Nat) : Rd G w a (l.take k) := by
  rcases h with rfl | ⟨g, o, rfl, hg, hc⟩
  · exact .inl (by simp)
  · exact .inr ⟨g, o, rfl, hg, fun j x hj => hc j x (by
      rw [List.getElem?_take] at hj
      split at hj
      · exact hj
      · cases hj)⟩
theorem Rd.drop {G : Nat → Prop} {w : World} {a : Option Addr} {l : List El} (h : Rd G w a l) {c : Nat} (hc : l.length ≤ c) (i : Nat) : Rd G w (ca a c i) (l.drop i) := by
  by_cases q : l.length ≤ i
  · exact .inl (List.drop_eq_nil_of_le q)
  · rcases h with rfl | ⟨g, o, rfl, hg, hr⟩
    · exact .inl (by simp)
    · refine .inr ⟨g, o + i, ca_some g o c i (by omega), hg, fun j x hj => ?_⟩
      rw [List.getElem?_drop] at hj
      have := hr _ x hj
      rwa [show o + (i + j) = o + i + j by omega] at this
theorem SL.mono {G G' : Nat → Prop} {w : World} {v : Value} {l : List El} (h : SL G w v l) (hG : ∀ k, k < w.heap.size → G k → G' k) : SL G' w v l := by
  obtain ⟨a, c, rfl, hc, hr⟩ := h
  exact ⟨a, c, rfl, hc, hr.mono hG⟩
theorem SL.keep {G : Nat → Prop} {w w' : World} {v : Value} {l : List El} (h : SL G w v l) (hk : ∀ k, k < w.heap.size → G k → w'.heap[k]? = w.heap[k]?) : SL G w' v l := by
  obtain ⟨a, c, rfl, hc, hr⟩ := h
  exact ⟨a, c, rfl, hc, hr.keep hk⟩
theorem SL.below {G : Nat → Prop} {w w' : World} {v : Value} {l : List El} (h : SL G w v l) (b : Below w.heap.size w w') : SL G w' v l := h.keep fun k hk _ => b.block k hk
theorem SL.drewN {G : Nat → Prop} {w : World} {v : Value} {l : List El} (h : SL G w v l) (n : Nat) : SL G (w.drewN n) v l := h.keep fun _ _ _ => rfl
theorem SL.fr {F : Nat → Prop} {w w' : World} {v : Value} {l : List El} (h : SL (fun k => ¬ F k) w v l) (f : Fr F w w') : SL (fun k => ¬ Gr F w k) w' v l := by
  obtain ⟨a, c, rfl, hc, hr⟩ := h
  refine ⟨a, c, rfl, hc, (hr.lt.keep fun k hk hn => f.block k hk hn.1).mono fun k _ hn e => ?_⟩
  rcases e with e | e
  · exact hn.1 e
  · exact absurd hn.2 (by omega)
theorem SL.nil (G : Nat → Prop) (w : World) : SL G w (.slice none 0 0) [] := ⟨none, 0, rfl, Nat.le_refl _, .inl rfl⟩


/-- a new row from block B on that reads as l -/
def NR (B : Nat) (w : World) (v : Value) (l : List El) : Prop := (v = .slice none 0 0 ∧ l = []) ∨ ∃ g c cur, v = .slice (some ⟨g, 0, none⟩) l.length c ∧ B ≤ g ∧ w.heap[g]? = some (.cells cur 9 (0, 0)) ∧ cur.size = c ∧ l.length ≤ c ∧ cur.toList.take l.length = l.map V
theorem row_at {cur : Array Value} {l : List El} (h : cur.toList.take l.length = l.map V) {j : Nat} {x : El} (hj : l[j]? = some x) : cur[j]? = some (V x) := by
  have hl : j < l.length := (List.getElem?_eq_some_iff.1 hj).1
  have h1 : (cur.toList.take l.length)[j]? = (l.map V)[j]? := by rw [h]
  rw [List.getElem?_take_of_lt hl, List.getElem?_map, hj, Array.getElem?_toList] at h1
  exact h1
theorem NR.sl {B : Nat} {w : World} {v : Value} {l : List El} (h : NR B w v l) : SL (fun k => B ≤ k) w v l := by
  rcases h with ⟨rfl, rfl⟩ | ⟨g, c, cur, rfl, hB, hr, hx, hl, ht⟩
  · exact SL.nil _ _
  · refine ⟨_, _, rfl, hl, .inr ⟨g, 0, rfl, hB, fun j x hj => ?_⟩⟩
    rw [Lib.cell_of_heap hr, Nat.zero_add]
    exact row_at ht hj
theorem NR.keep {B : Nat} {w w' : World} {v : Value} {l : List El} (h : NR B w v l) (hk : ∀ k, k < w.heap.size → B ≤ k → w'.heap[k]? = w.heap[k]?) : NR B w' v l := by
  rcases h with h | ⟨g, c, cur, rfl, hB, hr, hx, hl, ht⟩
  · exact .inl h
  · exact .inr ⟨g, c, cur, rfl, hB, (hk g (lt_of hr) hB).trans hr, hx, hl, ht⟩
theorem NR.below {B : Nat} {w w' : World} {v : Value} {l : List El} (h : NR B w v l) (b : Below w.heap.size w w') : NR B w' v l := h.keep fun k hk _ => b.block k hk
theorem NR.drewN {B : Nat} {w : World} {v : Value} {l : List El} (h : NR B w v l) (n : Nat) : NR B (w.drewN n) v l := h.keep fun _ _ _ => rfl
theorem NR.mono {B B' : Nat} {w : World} {v : Value} {l : List El} (h : NR B w v l) (hB : B' ≤ B) : NR B' w v l := by
  rcases h with h | ⟨g, c, cur, rfl, hb, r⟩
  · exact .inl h
  · exact .inr ⟨g, c, cur, rfl, Nat.le_trans hB hb, r⟩
theorem NR.shape {B : Nat} {w : World} {v : Value} {l : List El} (h : NR B w v l) : ∃ a c, v = .slice a l.length c ∧ l.length ≤ c := by
  rcases h with ⟨rfl, rfl⟩ | ⟨g, c, cur, rfl, hb, hr, hx, hl, ht⟩
  · exact ⟨none, 0, rfl, Nat.le_refl _⟩
  · exact ⟨_, c, rfl, hl⟩
theorem NR.of_owns {B : Nat} {w : World} {v : Value} {l : List El} (h : w.ownsRow B 9 1 v l.length (l.map V)) : NR B w v l := by
  rcases h.2 with ⟨rfl, h0⟩ | ⟨g, c, cur, rfl, hb, hr, h1, h2, h3, h4⟩
  · exact .inl ⟨rfl, List.length_eq_zero_iff.1 h0⟩
  · exact .inr ⟨g, c, cur, rfl, hb, hr, by simpa using h3, h1, by simpa using h4⟩
theorem Rd.get {G : Nat → Prop} {w : World} {a : Option Addr} {l : List El} (h : Rd G w a l) (hl : 0 < l.length) : ∃ g o, a = some ⟨g, o, none⟩ ∧ G g ∧ ∀ j x, l[j]? = some x → w.cell? ⟨g, o + j, none⟩ = some (V x) := by
  rcases h with e | q
  · rw [e] at hl; simp at hl
  · exact q
theorem sl_new (w : World) (l : List El) : SL (fun k => w.heap.size ≤ k) (w.alloc (.cells (l.map V).toArray 9)) (.slice (some ⟨w.heap.size, 0, none⟩) l.length l.length) l := by
  refine ⟨_, _, rfl, Nat.le_refl _, .inr ⟨w.heap.size, 0, rfl, Nat.le_refl _, fun j x hj => ?_⟩⟩
  rw [Lib.cell_of_heap (heap_alloc_new w _), Nat.zero_add]
  simp [hj]
theorem SL.len {G : Nat → Prop} {w : World} {v : Value} {l : List El} (h : SL G w v l) : ∃ a c, v = .slice a l.length c ∧ l.length ≤ c := by
  obtain ⟨a, c, e, hc, _⟩ := h
  exact ⟨a, c, e, hc⟩
/- append -/
theorem info9 : (Try.prog.info? 9).map (fun i => (i.zero, i.size, i.bytes)) = some (some (V Z), 1, 16) := by kernel_rfl
theorem rd_src {G : Nat → Prop} {w : World} {a : Option Addr} {l : List El} (h : Rd G w a l) (hl : l ≠ []) (c : Nat) : Src Try.prog 1 22 (.slice a l.length c) l.length (l.map V) w := by
  rcases h with rfl | ⟨g, o, rfl, _, hc⟩
  · exact absurd rfl hl
  · refine Src.ofSlice (P := Try.prog) w Try.underlying22 ⟨g, o, none⟩ l.length c (l.map V) (by simp) (fun j u hj => ?_) (fun u hu => by
      obtain ⟨x, _, rfl⟩ := List.mem_map.1 hu
      rfl)
    rw [List.getElem?_map] at hj
    obtain ⟨x, hx, rfl⟩ := Option.map_eq_some_iff.1 hj
    rw [add_off]
    exact hc j x hx
/-- a list appended to a new row -/
theorem app_any {G : Nat → Prop} {B : Nat} {w : World} {v : Value} {l m : List El} {a : Option Addr} {c : Nat} (h : NR B w v l) (hm : Rd G w a m) (hb : (l.length + m.length) * 16 ≤ 140737488355328 ∨ (m.length = 1 ∧ l.length * 16 ≤ 140737488355328)) (hB : B ≤ w.heap.size) (ty : TypeId) :
    ∃ v' w', (Builtin.append_ #[22, 22] ty #[v, .slice a m.length c]).run Try.prog w = .ok v' w' ∧ NR B w' v' (l ++ m) ∧ Below B w w' := by
  obtain ⟨i, hi, hz0, hz1, hz2⟩ := info_parts info9
  by_cases hl : m = []
  · subst hl
    refine ⟨v, w, ?_, by simpa using h, Below.refl _ _⟩
    have hld : ∀ x, (loadCells x 0).run Try.prog w = .ok #[] w := fun x => by simpa using run_loadCells_list (P := Try.prog) w x [] (by simp)
    rcases h with ⟨rfl, rfl⟩ | ⟨g, cp, xs, rfl, hBg, hr, hx, hlc, ht⟩
    · cases a <;> simp [Builtin.append_, run_underlying Try.underlying22, Builtin.lenOf, Builtin.firstCells, sizeOf, typeInfo, hi, hz1, hld]
    · cases a <;> simp [Builtin.append_, run_underlying Try.underlying22, Builtin.lenOf, Builtin.firstCells, sizeOf, typeInfo, hi, hz1, hld, hlc, storeCells]
  · have hp : 0 < m.length := List.length_pos_iff.2 hl
    have hs : Src Try.prog i.size 22 (.slice a m.length c) m.length (m.map V) w := by rw [hz1]; exact rd_src hm hl c
    by_cases hroom : ∃ g cp cur, v = .slice (some ⟨g, 0, none⟩) l.length cp ∧ B ≤ g ∧ w.heap[g]? = some (.cells cur 9 (0, 0)) ∧ cur.size = cp ∧ cur.toList.take l.length = l.map V ∧ l.length + m.length ≤ cp
    · obtain ⟨g, cp, cur, rfl, hBg, hr, hx, ht, hrm⟩ := hroom
      have hst := run_storeCells_at Try.prog g l.length 9 (m.map V) 0 cur w hr (by rw [List.length_map]; omega) (fun v hv => by
        obtain ⟨x, _, rfl⟩ := List.mem_map.1 hv
        rfl)
      simp only [Nat.add_zero] at hst
      have hcl := hs.cells
      rw [hz1] at hcl
      refine ⟨.slice (some ⟨g, 0, none⟩) (l.length + m.length) cp, _, ?_, .inr ⟨g, cp, _, by rw [List.length_append], hBg, setRow_heap w g cur (cur.toList.take l.length ++ m.map V ++ cur.toList.drop (l.length + (m.map V).length)).toArray 9 (0, 0) hr, by simp; omega, by rw [List.length_append]; exact hrm, ?_⟩, ?_⟩
      · simp [Builtin.append_, run_underlying Try.underlying22, Builtin.lenOf, sizeOf, typeInfo, hi, hz1, hrm, hcl, Addr.add_lit]
        simp at hst
        rw [hst]
        simp
      · rw [ht, ← List.map_append]
        exact List.take_left' (by simp)
      · exact (Fr.row (F := fun k => k = g) rfl _).below (Nat.le_trans hB (Nat.le_refl _)) fun k e => by rw [e]; exact hBg
    · have hg : ∃ ba cp, v = .slice ba l.length cp ∧ l.length ≤ cp ∧ cp < l.length + m.length ∧ (Builtin.firstCells i.size l.length (.slice ba l.length cp)).run Try.prog w.drew = .ok (l.map V).toArray w.drew := by
        rcases h with ⟨rfl, rfl⟩ | ⟨g, cp, cur, rfl, hBg, hr, hx, hlc, ht⟩
        · exact ⟨none, 0, rfl, Nat.le_refl _, by simpa using hp, by simp [Builtin.firstCells]⟩
        · refine ⟨_, cp, rfl, hlc, ?_, ?_⟩
          · rcases Nat.lt_or_ge cp (l.length + m.length) with q | q
            · exact q
            · exact absurd ⟨g, cp, cur, rfl, hBg, hr, hx, ht, q⟩ hroom
          · refine run_firstCells_some (P := Try.prog) w.drew i.size l.length ⟨g, 0, none⟩ l.length cp (l.map V) (by simp [hz1]) ?_
            intro j y hj
            rw [List.getElem?_map] at hj
            obtain ⟨x, hx1, rfl⟩ := Option.map_eq_some_iff.1 hj
            rw [add_off, Nat.zero_add]
            show w.cell? ⟨g, j, none⟩ = _
            rw [Lib.cell_of_heap hr]
            exact row_at ht hx1
      obtain ⟨ba, cp, rfl, hlc, hlt, hold⟩ := hg
      have hfit : Builtin.nextslicecap (l.length + m.length) cp * i.bytes ≤ 281474976710656 := by
        rw [hz2]
        rcases hb with hb | ⟨h1, h2⟩
        · exact growslice_fits hlt hb
        · obtain rfl : cp = l.length := by omega
          rw [h1]
          exact growslice_fits_succ h2 (by decide)
      have hr := run_append_grow_src (P := Try.prog) w 22 22 ty 9 i (V Z) Try.underlying22 hi hz0 ba l.length cp (l.map V) hold (.slice a m.length c) m.length (m.map V) hs hlt (by omega) hfit
      have hge := grownCap_ge w (l.length + m.length) cp 9
      refine ⟨_, _, hr, .inr ⟨w.heap.size, grownCap w (l.length + m.length) cp 9, _, by rw [List.length_append], hB, heap_alloc_new w.drew _, ?_, by rw [List.length_append]; exact hge, ?_⟩, (Below.refl _ w).drew.alloc hB _⟩
      · simp [Builtin.zeroCells, Value.cells]
        omega
      · rw [Array.toList_append, List.map_append]
        exact List.take_left' (by simp)
/-- append(l, x) -/
theorem app_one {B : Nat} {w : World} {v : Value} {l : List El} (x : El) (h : NR B w v l) (hb : l.length * 16 ≤ 140737488355328) (hB : B ≤ w.heap.size) (ty : TypeId) :
    ∃ v' w', (Builtin.append_ #[22, 22] ty #[v, .slice (some ⟨w.heap.size, 0, none⟩) 1 1]).run Try.prog (w.alloc (.cells #[V x] 9)) = .ok v' w' ∧ NR B w' v' (l ++ [x]) ∧ Below B w w' := by
  have b1 := (Below.refl w.heap.size w).alloc (Nat.le_refl _) (.cells #[V x] 9)
  have hm : Rd (fun _ => True) (w.alloc (.cells #[V x] 9)) (some ⟨w.heap.size, 0, none⟩) [x] := by
    refine .inr ⟨w.heap.size, 0, rfl, trivial, fun j y hj => ?_⟩
    rw [Lib.cell_of_heap (heap_alloc_new w _)]
    cases j with
    | zero => simp at hj; subst hj; rfl
    | succ j => simp at hj
  obtain ⟨v', w', h1, h2, h3⟩ := app_any (c := 1) (h.below b1) hm (.inr ⟨rfl, hb⟩) (Nat.le_trans hB b1.size) ty
  exact ⟨v', w', h1, h2, (b1.mono hB).trans h3⟩
section
variable {ops : Array Oper} {rest : List Oper} {o : Oper} {a : Act} {Q : Exit → Act → World → Prop}
theorem wpl_eq (hgd : o.guard = none) (s x : Operand) (t tx : TypeId) (ho : o.op = .call { callee := .builtin .append, args := #[s, x], argTypes := #[t, tx] }) (v u v' : Value) (W W' : World) (hs : a.eval s = v) (hx : a.eval x = u)
    (hr : (Builtin.append_ #[t, tx] o.type #[v, u]).run Try.prog W = .ok v' W') (hK : wpList Try.prog ops Q rest (a.put o.dst v') W') : wpList Try.prog ops Q (o :: rest) a W := by
  refine wpList_plain hgd fun K hK2 => ?_
  unfold Oper.wp execOp
  simp only [ho, resolve, invoke, builtin, Sem.run_bind, Sem.run_pure, Result.andThen_ok, List.map_toArray, List.map_cons, List.map_nil, hs, hx, hr]
  exact hK2 _ _ hK
end
end Go.Proofs.Ytdcnkdkhanmklab.Base
