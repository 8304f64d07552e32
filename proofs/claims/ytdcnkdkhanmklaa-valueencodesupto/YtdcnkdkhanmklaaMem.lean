/- Lists of texts in memory: lists that are read, new rows, what a call may touch. A list of entries in memory: read, new rows, append. A list of fields in memory: read, new rows, append. Two fields, two entries compared. Small calls that only read: Valid, the document's Valid and Has, Same, cmp.Compare. -/
import Derived.Test.YtdcnkdkhanmklaaProg
import Derived.Test.YtdcnkdkhanmklaaMath
import Derived.WalkKit
import Derived.WalkSmall
import Derived.WalkLawsBesides
import Derived.WalkSpells
import Derived.BigQuiet
import Derived.BigRegion
import Derived.Below
import Derived.OwnWalk
import Derived.Lib.SliceRun
import Derived.Lib.Builder
import Derived.Lib.Strings
import Derived.Laws.OwnMore
import Derived.Laws.CopyRow
import Derived.Deep.LoopGhost
import Derived.Deep.RegionWith
import Derived.Deep.RegionHeld3
import Derived.Deep.AppendSrc
import Derived.Sort.OwnSorted
import Derived.Deep.DeepAppendWide
import Derived.DeepKeys
section
namespace Go.Proofs.Ytdcnkdkhanmklaa.Base
open Go.RowKit Go.Sort
open Go.Proofs.Ytdcnkdkhanmklaa.SetMath
set_option linter.unusedVariables false
set_option linter.unusedSimpArgs false
abbrev El := Bs
def bs (s : ByteArray) : List UInt8 := s.data.toList
theorem len_bs (s : ByteArray) : (bs s).length = s.size := by unfold bs; simp
def mk (l : List UInt8) : ByteArray := ⟨l.toArray⟩
theorem bs_mk (l : List UInt8) : bs (mk l) = l := rfl
theorem mk_bs (s : ByteArray) : mk (bs s) = s := by cases s; simp [mk, bs]
theorem mk_size (l : List UInt8) : (mk l).size = l.length := by rw [← len_bs, bs_mk]
theorem mk_inj {a b : List UInt8} (h : mk a = mk b) : a = b := by rw [← bs_mk a, ← bs_mk b, h]
theorem mk_list (l : List UInt8) : (mk l).toList = l := by rw [Lib.toList_data]; rfl
theorem str_eq (a b : List UInt8) : ((mk a).toList == (mk b).toList) = decide (a = b) := by
  rw [mk_list, mk_list]
  by_cases h : a = b <;> simp [h]
theorem str_lt (a b : List UInt8) : Op.bytesLess (mk a).toList (mk b).toList = decide (a < b) := by rw [mk_list, mk_list, bytesLess_eq]
abbrev V (x : El) : Value := .string (mk x)
abbrev Z : El := []
theorem enc_V (x : El) : encStr x = V x := rfl
theorem enc_map (l : List El) : l.map encStr = l.map V := rfl
theorem ret_b {a b : Bool} (h : a = b) : Ending.returned (.bool a) = .returned (.bool b) := by rw [h]
theorem hid_of {p : Prop} (h : p) : Hid p := h
theorem lt_of {w : World} {b : Nat} {o : Obj} (h : w.heap[b]? = some o) : b < w.heap.size := (Array.getElem?_eq_some_iff.1 h).1
theorem set_at {w : World} {b i : Nat} {cs : Array Value} {ty : TypeId} {fz : Nat × Nat} (h : w.heap[b]? = some (.cells cs ty fz)) (v : Value) : (w.setCell ⟨b, i, none⟩ v).heap[b]? = some (.cells (cs.setIfInBounds i v) ty fz) := by
  rw [setCell_eq_setRow w b i cs ty fz v h]
  exact setRow_heap w b cs _ ty _ h
theorem set_ne {w : World} {b i k : Nat} (h : k ≠ b) (v : Value) : (w.setCell ⟨b, i, none⟩ v).heap[k]? = w.heap[k]? := Below.heap_setCell _ _ _ _ h
theorem size_set {w : World} (p : Addr) (v : Value) : (w.setCell p v).heap.size = w.heap.size := by simp [World.setCell]
theorem row_ne {w : World} {g k : Nat} {cs : Array Value} (h : k ≠ g) : (w.setRow g cs).heap[k]? = w.heap[k]? := by
  unfold World.setRow
  simp [Array.getElem?_modify, Ne.symm h]
theorem size_row {w : World} {g : Nat} {cs : Array Value} : (w.setRow g cs).heap.size = w.heap.size := by
  unfold World.setRow
  simp
theorem add_off (g o k : Nat) : (⟨g, o, none⟩ : Addr).add k = ⟨g, o + k, none⟩ := Addr.add_lit g o k

/- what a call may touch -/
structure Fr (F : Nat → Prop) (w w' : World) : Prop where
  os : w'.os = w.os
  tape : w'.tape = w.tape
  output : w'.output = w.output
  size : w.heap.size ≤ w'.heap.size
  block : ∀ k, k < w.heap.size → ¬ F k → w'.heap[k]? = w.heap[k]?
def Gr (F : Nat → Prop) (w : World) : Nat → Prop := fun k => F k ∨ w.heap.size ≤ k
theorem Fr.refl (F : Nat → Prop) (w : World) : Fr F w w := ⟨rfl, rfl, rfl, Nat.le_refl _, fun _ _ _ => rfl⟩
theorem Fr.trans {F : Nat → Prop} {a b c : World} (h : Fr F a b) (k : Fr (Gr F a) b c) : Fr F a c :=
  ⟨k.os.trans h.os, k.tape.trans h.tape, k.output.trans h.output, Nat.le_trans h.size k.size, fun i hi hn => (k.block i (Nat.lt_of_lt_of_le hi h.size) (fun e => by
    rcases e with e | e
    · exact hn e
    · omega)).trans (h.block i hi hn)⟩
theorem Fr.mono {F G : Nat → Prop} {a b : World} (h : Fr F a b) (hG : ∀ k, k < a.heap.size → F k → G k) : Fr G a b := ⟨h.os, h.tape, h.output, h.size, fun k hk hn => h.block k hk (fun e => hn (hG k hk e))⟩
theorem Fr.of_below {F : Nat → Prop} {a b : World} (h : Below a.heap.size a b) : Fr F a b := ⟨h.os, h.tape, h.output, h.size, fun k hk _ => h.block k hk⟩
theorem Fr.below {F : Nat → Prop} {a b : World} (h : Fr F a b) {base : Nat} (hb : base ≤ a.heap.size) (hF : ∀ k, F k → base ≤ k) : Below base a b := ⟨h.os, h.tape, h.output, h.size, fun k hk => h.block k (by omega) (fun e => by have := hF k e; omega)⟩
theorem Fr.alloc {F : Nat → Prop} {a b : World} (h : Fr F a b) (o : Obj) : Fr F a (b.alloc o) := h.trans (Fr.of_below ((Below.refl _ b).alloc (Nat.le_refl _) o))
theorem Fr.drew {F : Nat → Prop} {a b : World} (h : Fr F a b) : Fr F a b.drew := ⟨h.os, h.tape, h.output, h.size, h.block⟩
theorem Fr.drewN {F : Nat → Prop} {a b : World} (h : Fr F a b) (n : Nat) : Fr F a (b.drewN n) := ⟨h.os, h.tape, h.output, h.size, h.block⟩
theorem Fr.set {F : Nat → Prop} {w : World} {f i : Nat} (hF : F f) (v : Value) : Fr F w (w.setCell ⟨f, i, none⟩ v) := by
  have e0 : Below 0 w (w.setCell ⟨f, i, none⟩ v) := (Below.refl 0 w).setCell (Nat.zero_le _) v
  exact ⟨e0.os, e0.tape, e0.output, e0.size, fun k hk hn => set_ne (fun e => hn (by rw [e]; exact hF)) v⟩
theorem Fr.row {F : Nat → Prop} {w : World} {g : Nat} (hF : F g) (cs : Array Value) : Fr F w (w.setRow g cs) :=
  ⟨rfl, rfl, rfl, by rw [size_row]; exact Nat.le_refl _, fun k hk hn => row_ne (fun e => hn (by rw [e]; exact hF))⟩
theorem bel_drewN (w : World) (n : Nat) : Below w.heap.size w (w.drewN n) := ⟨rfl, rfl, rfl, Nat.le_refl _, fun _ _ => rfl⟩

/- a slice: its address, its length and its room -/
def ca (a : Option Addr) (c i : Nat) : Option Addr := if c = i then a else a.map (·.add i)
theorem ca_some (g o c i : Nat) (h : i < c) : ca (some ⟨g, o, none⟩) c i = some ⟨g, o + i, none⟩ := by
  unfold ca
  rw [if_neg (by omega)]
  simp [add_off]
theorem ca_zero (a : Option Addr) (c : Nat) : ca a c 0 = a := by
  unfold ca
  by_cases h : c = 0
  · rw [if_pos h]
  · rw [if_neg h]
    cases a with
    | none => rfl
    | some a => simp [Addr.add]
theorem size9 (w : World) : (Go.sizeOf 9).run Try.prog w = .ok 1 w := by kernel_rfl
theorem cut_any (a : Option Addr) (n c i j : Nat) (x y : Int) (hx : x = i) (hy : y = j) (hij : i ≤ j) (hj : j ≤ c) (w : World) :
    (Instr.slice 22 (.slice a n c) (some (.int .i64 x)) (some (.int .i64 y)) none).run Try.prog w = .ok (.slice (ca a c i) (j - i) (c - i)) w := by
  subst hx; subst hy
  have h1 : (i : Int) ≤ j := by omega
  have h2 : (j : Int) ≤ c := by omega
  simp [Instr.slice, run_underlying Try.underlying22, Instr.sliceBounds, run_sliceBound, size9, ca, h1, h2]
theorem cut_lo (a : Option Addr) (n c i : Nat) (x : Int) (hx : x = i) (hi : i ≤ n) (w : World) :
    (Instr.slice 22 (.slice a n c) (some (.int .i64 x)) none none).run Try.prog w = .ok (.slice (ca a c i) (n - i) (c - i)) w := by
  subst hx
  have h1 : (i : Int) ≤ n := by omega
  simp [Instr.slice, run_underlying Try.underlying22, Instr.sliceBounds, run_sliceBound, size9, ca, h1]
theorem cut_hi (a : Option Addr) (n c j : Nat) (y : Int) (hy : y = j) (hj : j ≤ c) (w : World) :
    (Instr.slice 22 (.slice a n c) none (some (.int .i64 y)) none).run Try.prog w = .ok (.slice a j c) w := by
  subst hy
  have h2 : (j : Int) ≤ c := by omega
  have := ca_zero a c
  unfold ca at this
  simp [Instr.slice, run_underlying Try.underlying22, Instr.sliceBounds, run_sliceBound, size9, h2, this]

/-- behind the address a lie the elements l, in a block of which G holds -/
def Rd (G : Nat → Prop) (w : World) (a : Option Addr) (l : List El) : Prop := l = [] ∨ ∃ g o, a = some ⟨g, o, none⟩ ∧ G g ∧ ∀ j x, l[j]? = some x → w.cell? ⟨g, o + j, none⟩ = some (V x)
def SL (G : Nat → Prop) (w : World) (v : Value) (l : List El) : Prop := ∃ a c, v = .slice a l.length c ∧ l.length ≤ c ∧ Rd G w a l
theorem cell_lt {w : World} {p : Addr} {v : Value} (h : w.cell? p = some v) : p.block < w.heap.size := block_lt_of_cell h
theorem Rd.lt {G : Nat → Prop} {w : World} {a : Option Addr} {l : List El} (h : Rd G w a l) : Rd (fun k => G k ∧ k < w.heap.size) w a l := by
  rcases h with rfl | ⟨g, o, rfl, hG, hc⟩
  · exact .inl rfl
  · cases l with
    | nil => exact .inl rfl
    | cons x r => exact .inr ⟨g, o, rfl, ⟨hG, cell_lt (hc 0 x rfl)⟩, hc⟩
theorem Rd.mono {G G' : Nat → Prop} {w : World} {a : Option Addr} {l : List El} (h : Rd G w a l) (hG : ∀ k, k < w.heap.size → G k → G' k) : Rd G' w a l := by
  rcases h.lt with rfl | ⟨g, o, rfl, hg, hc⟩
  · exact .inl rfl
  · exact .inr ⟨g, o, rfl, hG g hg.2 hg.1, hc⟩
theorem Rd.keep {G : Nat → Prop} {w w' : World} {a : Option Addr} {l : List El} (h : Rd G w a l) (hk : ∀ k, k < w.heap.size → G k → w'.heap[k]? = w.heap[k]?) : Rd G w' a l := by
  rcases h.lt with rfl | ⟨g, o, rfl, hg, hc⟩
  · exact .inl rfl
  · exact .inr ⟨g, o, rfl, hg.1, fun j x hj => (World.cell?_of_block (w := w) (hk g hg.2 hg.1)).trans (hc j x hj)⟩
theorem Rd.take {G : Nat → Prop} {w : World} {a : Option Addr} {l : List El} (h : Rd G w a l) (k : Nat) : Rd G w a (l.take k) := by
  rcases h with rfl | ⟨g, o, rfl, hg, hc⟩
  · exact .inl (by simp)
  · exact .inr ⟨g, o, rfl, hg, fun j x hj => hc j x (by
      rw [List.getElem?_take] at hj
      split at hj
      · exact hj
      · cases hj)⟩
theorem Rd.drop {G : Nat → Prop} {w : World} {a : Option Addr} {l : List El} (h : Rd G w a l) {c : Nat} (hc : l.length ≤ c) (i : Nat) : Rd G w (ca a c i) (l.drop i) := by
  by_cases q : l.length ≤ i
  · exact .inl (List.drop_eq_nil_of_le q)
  · rcases h with rfl | ⟨g, o, rfl, hg, hr⟩
    · exact .inl (by simp)
    · refine .inr ⟨g, o + i, ca_some g o c i (by omega), hg, fun j x hj => ?_⟩
      rw [List.getElem?_drop] at hj
      have := hr _ x hj
      rwa [show o + (i + j) = o + i + j by omega] at this
theorem SL.mono {G G' : Nat → Prop} {w : World} {v : Value} {l : List El} (h : SL G w v l) (hG : ∀ k, k < w.heap.size → G k → G' k) : SL G' w v l := by
  obtain ⟨a, c, rfl, hc, hr⟩ := h
  exact ⟨a, c, rfl, hc, hr.mono hG⟩
theorem SL.keep {G : Nat → Prop} {w w' : World} {v : Value} {l : List El} (h : SL G w v l) (hk : ∀ k, k < w.heap.size → G k → w'.heap[k]? = w.heap[k]?) : SL G w' v l := by
  obtain ⟨a, c, rfl, hc, hr⟩ := h
  exact ⟨a, c, rfl, hc, hr.keep hk⟩
theorem SL.below {G : Nat → Prop} {w w' : World} {v : Value} {l : List El} (h : SL G w v l) (b : Below w.heap.size w w') : SL G w' v l := h.keep fun k hk _ => b.block k hk
theorem SL.drewN {G : Nat → Prop} {w : World} {v : Value} {l : List El} (h : SL G w v l) (n : Nat) : SL G (w.drewN n) v l := h.keep fun _ _ _ => rfl
theorem SL.fr {F : Nat → Prop} {w w' : World} {v : Value} {l : List El} (h : SL (fun k => ¬ F k) w v l) (f : Fr F w w') : SL (fun k => ¬ Gr F w k) w' v l := by
  obtain ⟨a, c, rfl, hc, hr⟩ := h
  refine ⟨a, c, rfl, hc, (hr.lt.keep fun k hk hn => f.block k hk hn.1).mono fun k _ hn e => ?_⟩
  rcases e with e | e
  · exact hn.1 e
  · exact absurd hn.2 (by omega)
theorem SL.nil (G : Nat → Prop) (w : World) : SL G w (.slice none 0 0) [] := ⟨none, 0, rfl, Nat.le_refl _, .inl rfl⟩


/-- a new row from block B on that reads as l -/
def NR (B : Nat) (w : World) (v : Value) (l : List El) : Prop := (v = .slice none 0 0 ∧ l = []) ∨ ∃ g c cur, v = .slice (some ⟨g, 0, none⟩) l.length c ∧ B ≤ g ∧ w.heap[g]? = some (.cells cur 9 (0, 0)) ∧ cur.size = c ∧ l.length ≤ c ∧ cur.toList.take l.length = l.map V
theorem row_at {cur : Array Value} {l : List El} (h : cur.toList.take l.length = l.map V) {j : Nat} {x : El} (hj : l[j]? = some x) : cur[j]? = some (V x) := by
  have hl : j < l.length := (List.getElem?_eq_some_iff.1 hj).1
  have h1 : (cur.toList.take l.length)[j]? = (l.map V)[j]? := by rw [h]
  rw [List.getElem?_take_of_lt hl, List.getElem?_map, hj, Array.getElem?_toList] at h1
  exact h1
theorem NR.sl {B : Nat} {w : World} {v : Value} {l : List El} (h : NR B w v l) : SL (fun k => B ≤ k) w v l := by
  rcases h with ⟨rfl, rfl⟩ | ⟨g, c, cur, rfl, hB, hr, hx, hl, ht⟩
  · exact SL.nil _ _
  · refine ⟨_, _, rfl, hl, .inr ⟨g, 0, rfl, hB, fun j x hj => ?_⟩⟩
    rw [Lib.cell_of_heap hr, Nat.zero_add]
    exact row_at ht hj
theorem NR.keep {B : Nat} {w w' : World} {v : Value} {l : List El} (h : NR B w v l) (hk : ∀ k, k < w.heap.size → B ≤ k → w'.heap[k]? = w.heap[k]?) : NR B w' v l := by
  rcases h with h | ⟨g, c, cur, rfl, hB, hr, hx, hl, ht⟩
  · exact .inl h
  · exact .inr ⟨g, c, cur, rfl, hB, (hk g (lt_of hr) hB).trans hr, hx, hl, ht⟩
theorem NR.below {B : Nat} {w w' : World} {v : Value} {l : List El} (h : NR B w v l) (b : Below w.heap.size w w') : NR B w' v l := h.keep fun k hk _ => b.block k hk
theorem NR.drewN {B : Nat} {w : World} {v : Value} {l : List El} (h : NR B w v l) (n : Nat) : NR B (w.drewN n) v l := h.keep fun _ _ _ => rfl
theorem NR.mono {B B' : Nat} {w : World} {v : Value} {l : List El} (h : NR B w v l) (hB : B' ≤ B) : NR B' w v l := by
  rcases h with h | ⟨g, c, cur, rfl, hb, r⟩
  · exact .inl h
  · exact .inr ⟨g, c, cur, rfl, Nat.le_trans hB hb, r⟩
theorem NR.shape {B : Nat} {w : World} {v : Value} {l : List El} (h : NR B w v l) : ∃ a c, v = .slice a l.length c ∧ l.length ≤ c := by
  rcases h with ⟨rfl, rfl⟩ | ⟨g, c, cur, rfl, hb, hr, hx, hl, ht⟩
  · exact ⟨none, 0, rfl, Nat.le_refl _⟩
  · exact ⟨_, c, rfl, hl⟩
theorem NR.of_owns {B : Nat} {w : World} {v : Value} {l : List El} (h : w.ownsRow B 9 1 v l.length (l.map V)) : NR B w v l := by
  rcases h.2 with ⟨rfl, h0⟩ | ⟨g, c, cur, rfl, hb, hr, h1, h2, h3, h4⟩
  · exact .inl ⟨rfl, List.length_eq_zero_iff.1 h0⟩
  · exact .inr ⟨g, c, cur, rfl, hb, hr, by simpa using h3, h1, by simpa using h4⟩
theorem Rd.get {G : Nat → Prop} {w : World} {a : Option Addr} {l : List El} (h : Rd G w a l) (hl : 0 < l.length) : ∃ g o, a = some ⟨g, o, none⟩ ∧ G g ∧ ∀ j x, l[j]? = some x → w.cell? ⟨g, o + j, none⟩ = some (V x) := by
  rcases h with e | q
  · rw [e] at hl; simp at hl
  · exact q
theorem sl_new (w : World) (l : List El) : SL (fun k => w.heap.size ≤ k) (w.alloc (.cells (l.map V).toArray 9)) (.slice (some ⟨w.heap.size, 0, none⟩) l.length l.length) l := by
  refine ⟨_, _, rfl, Nat.le_refl _, .inr ⟨w.heap.size, 0, rfl, Nat.le_refl _, fun j x hj => ?_⟩⟩
  rw [Lib.cell_of_heap (heap_alloc_new w _), Nat.zero_add]
  simp [hj]
theorem SL.len {G : Nat → Prop} {w : World} {v : Value} {l : List El} (h : SL G w v l) : ∃ a c, v = .slice a l.length c ∧ l.length ≤ c := by
  obtain ⟨a, c, e, hc, _⟩ := h
  exact ⟨a, c, e, hc⟩
/- append -/
theorem info9 : (Try.prog.info? 9).map (fun i => (i.zero, i.size, i.bytes)) = some (some (V Z), 1, 16) := by kernel_rfl
theorem rd_src {G : Nat → Prop} {w : World} {a : Option Addr} {l : List El} (h : Rd G w a l) (hl : l ≠ []) (c : Nat) : Src Try.prog 1 22 (.slice a l.length c) l.length (l.map V) w := by
  rcases h with rfl | ⟨g, o, rfl, _, hc⟩
  · exact absurd rfl hl
  · refine Src.ofSlice (P := Try.prog) w Try.underlying22 ⟨g, o, none⟩ l.length c (l.map V) (by simp) (fun j u hj => ?_) (fun u hu => by
      obtain ⟨x, _, rfl⟩ := List.mem_map.1 hu
      rfl)
    rw [List.getElem?_map] at hj
    obtain ⟨x, hx, rfl⟩ := Option.map_eq_some_iff.1 hj
    rw [add_off]
    exact hc j x hx
/-- a list appended to a new row -/
theorem app_any {G : Nat → Prop} {B : Nat} {w : World} {v : Value} {l m : List El} {a : Option Addr} {c : Nat} (h : NR B w v l) (hm : Rd G w a m) (hb : (l.length + m.length) * 16 ≤ 140737488355328 ∨ (m.length = 1 ∧ l.length * 16 ≤ 140737488355328)) (hB : B ≤ w.heap.size) (ty : TypeId) :
    ∃ v' w', (Builtin.append_ #[22, 22] ty #[v, .slice a m.length c]).run Try.prog w = .ok v' w' ∧ NR B w' v' (l ++ m) ∧ Below B w w' := by
  obtain ⟨i, hi, hz0, hz1, hz2⟩ := info_parts info9
  by_cases hl : m = []
  · subst hl
    refine ⟨v, w, ?_, by simpa using h, Below.refl _ _⟩
    have hld : ∀ x, (loadCells x 0).run Try.prog w = .ok #[] w := fun x => by simpa using run_loadCells_list (P := Try.prog) w x [] (by simp)
    rcases h with ⟨rfl, rfl⟩ | ⟨g, cp, xs, rfl, hBg, hr, hx, hlc, ht⟩
    · cases a <;> simp [Builtin.append_, run_underlying Try.underlying22, Builtin.lenOf, Builtin.firstCells, sizeOf, typeInfo, hi, hz1, hld]
    · cases a <;> simp [Builtin.append_, run_underlying Try.underlying22, Builtin.lenOf, Builtin.firstCells, sizeOf, typeInfo, hi, hz1, hld, hlc, storeCells]
  · have hp : 0 < m.length := List.length_pos_iff.2 hl
    have hs : Src Try.prog i.size 22 (.slice a m.length c) m.length (m.map V) w := by rw [hz1]; exact rd_src hm hl c
    by_cases hroom : ∃ g cp cur, v = .slice (some ⟨g, 0, none⟩) l.length cp ∧ B ≤ g ∧ w.heap[g]? = some (.cells cur 9 (0, 0)) ∧ cur.size = cp ∧ cur.toList.take l.length = l.map V ∧ l.length + m.length ≤ cp
    · obtain ⟨g, cp, cur, rfl, hBg, hr, hx, ht, hrm⟩ := hroom
      have hst := run_storeCells_at Try.prog g l.length 9 (m.map V) 0 cur w hr (by rw [List.length_map]; omega) (fun v hv => by
        obtain ⟨x, _, rfl⟩ := List.mem_map.1 hv
        rfl)
      simp only [Nat.add_zero] at hst
      have hcl := hs.cells
      rw [hz1] at hcl
      refine ⟨.slice (some ⟨g, 0, none⟩) (l.length + m.length) cp, _, ?_, .inr ⟨g, cp, _, by rw [List.length_append], hBg, setRow_heap w g cur (cur.toList.take l.length ++ m.map V ++ cur.toList.drop (l.length + (m.map V).length)).toArray 9 (0, 0) hr, by simp; omega, by rw [List.length_append]; exact hrm, ?_⟩, ?_⟩
      · simp [Builtin.append_, run_underlying Try.underlying22, Builtin.lenOf, sizeOf, typeInfo, hi, hz1, hrm, hcl, Addr.add_lit]
        simp at hst
        rw [hst]
        simp
      · rw [ht, ← List.map_append]
        exact List.take_left' (by simp)
      · exact (Fr.row (F := fun k => k = g) rfl _).below (Nat.le_trans hB (Nat.le_refl _)) fun k e => by rw [e]; exact hBg
    · have hg : ∃ ba cp, v = .slice ba l.length cp ∧ l.length ≤ cp ∧ cp < l.length + m.length ∧ (Builtin.firstCells i.size l.length (.slice ba l.length cp)).run Try.prog w.drew = .ok (l.map V).toArray w.drew := by
        rcases h with ⟨rfl, rfl⟩ | ⟨g, cp, cur, rfl, hBg, hr, hx, hlc, ht⟩
        · exact ⟨none, 0, rfl, Nat.le_refl _, by simpa using hp, by simp [Builtin.firstCells]⟩
        · refine ⟨_, cp, rfl, hlc, ?_, ?_⟩
          · rcases Nat.lt_or_ge cp (l.length + m.length) with q | q
            · exact q
            · exact absurd ⟨g, cp, cur, rfl, hBg, hr, hx, ht, q⟩ hroom
          · refine run_firstCells_some (P := Try.prog) w.drew i.size l.length ⟨g, 0, none⟩ l.length cp (l.map V) (by simp [hz1]) ?_
            intro j y hj
            rw [List.getElem?_map] at hj
            obtain ⟨x, hx1, rfl⟩ := Option.map_eq_some_iff.1 hj
            rw [add_off, Nat.zero_add]
            show w.cell? ⟨g, j, none⟩ = _
            rw [Lib.cell_of_heap hr]
            exact row_at ht hx1
      obtain ⟨ba, cp, rfl, hlc, hlt, hold⟩ := hg
      have hfit : Builtin.nextslicecap (l.length + m.length) cp * i.bytes ≤ 281474976710656 := by
        rw [hz2]
        rcases hb with hb | ⟨h1, h2⟩
        · exact growslice_fits hlt hb
        · obtain rfl : cp = l.length := by omega
          rw [h1]
          exact growslice_fits_succ h2 (by decide)
      have hr := run_append_grow_src (P := Try.prog) w 22 22 ty 9 i (V Z) Try.underlying22 hi hz0 ba l.length cp (l.map V) hold (.slice a m.length c) m.length (m.map V) hs hlt (by omega) hfit
      have hge := grownCap_ge w (l.length + m.length) cp 9
      refine ⟨_, _, hr, .inr ⟨w.heap.size, grownCap w (l.length + m.length) cp 9, _, by rw [List.length_append], hB, heap_alloc_new w.drew _, ?_, by rw [List.length_append]; exact hge, ?_⟩, (Below.refl _ w).drew.alloc hB _⟩
      · simp [Builtin.zeroCells, Value.cells]
        omega
      · rw [Array.toList_append, List.map_append]
        exact List.take_left' (by simp)
/-- append(l, x) -/
theorem app_one {B : Nat} {w : World} {v : Value} {l : List El} (x : El) (h : NR B w v l) (hb : l.length * 16 ≤ 140737488355328) (hB : B ≤ w.heap.size) (ty : TypeId) :
    ∃ v' w', (Builtin.append_ #[22, 22] ty #[v, .slice (some ⟨w.heap.size, 0, none⟩) 1 1]).run Try.prog (w.alloc (.cells #[V x] 9)) = .ok v' w' ∧ NR B w' v' (l ++ [x]) ∧ Below B w w' := by
  have b1 := (Below.refl w.heap.size w).alloc (Nat.le_refl _) (.cells #[V x] 9)
  have hm : Rd (fun _ => True) (w.alloc (.cells #[V x] 9)) (some ⟨w.heap.size, 0, none⟩) [x] := by
    refine .inr ⟨w.heap.size, 0, rfl, trivial, fun j y hj => ?_⟩
    rw [Lib.cell_of_heap (heap_alloc_new w _)]
    cases j with
    | zero => simp at hj; subst hj; rfl
    | succ j => simp at hj
  obtain ⟨v', w', h1, h2, h3⟩ := app_any (c := 1) (h.below b1) hm (.inr ⟨rfl, hb⟩) (Nat.le_trans hB b1.size) ty
  exact ⟨v', w', h1, h2, (b1.mono hB).trans h3⟩
section
variable {ops : Array Oper} {rest : List Oper} {o : Oper} {a : Act} {Q : Exit → Act → World → Prop}
theorem wpl_eq (hgd : o.guard = none) (s x : Operand) (t tx : TypeId) (ho : o.op = .call { callee := .builtin .append, args := #[s, x], argTypes := #[t, tx] }) (v u v' : Value) (W W' : World) (hs : a.eval s = v) (hx : a.eval x = u)
    (hr : (Builtin.append_ #[t, tx] o.type #[v, u]).run Try.prog W = .ok v' W') (hK : wpList Try.prog ops Q rest (a.put o.dst v') W') : wpList Try.prog ops Q (o :: rest) a W := by
  refine wpList_plain hgd fun K hK2 => ?_
  unfold Oper.wp execOp
  simp only [ho, resolve, invoke, builtin, Sem.run_bind, Sem.run_pure, Result.andThen_ok, List.map_toArray, List.map_cons, List.map_nil, hs, hx, hr]
  exact hK2 _ _ hK
end
end Go.Proofs.Ytdcnkdkhanmklaa.Base
end
section
namespace Go.Proofs.Ytdcnkdkhanmklaa.ERow
open Go.RowKit Go.Sort
open Go.Proofs.Ytdcnkdkhanmklaa.SetMath
open Go.Proofs.Ytdcnkdkhanmklaa.ValueMath
open Go.Proofs.Ytdcnkdkhanmklaa.Base (bs mk len_bs bs_mk mk_bs mk_size mk_inj mk_list hid_of lt_of set_at set_ne size_set)
set_option linter.unusedVariables false
set_option linter.unusedSimpArgs false
abbrev EN := Bs × Int
abbrev LL := List EN
abbrev big : Nat := 9000000000000
theorem bdrew {B : Nat} {w w' : World} (h : Below B w w') (n : Nat) : Below B w (w'.drewN n) := ⟨h.os, h.tape, h.output, h.size, h.block⟩
theorem bel {B : Nat} {a b c : World} (h : Below B a b) (k : Below b.heap.size b c) (hB : B ≤ a.heap.size) : Below B a c := h.trans (k.mono (Nat.le_trans hB h.size))
theorem bnew (w : World) (o : Obj) : Below w.heap.size w (w.alloc o) := (Below.refl _ w).alloc (Nat.le_refl _) o
theorem cell_blk {w : World} {a : Addr} {v : Value} (h : w.cell? a = some v) : ∃ cs t fz, w.heap[a.block]? = some (.cells cs t fz) := by
  unfold World.cell? at h
  cases e : w.heap[a.block]? with
  | none => rw [e] at h; simp at h
  | some o =>
    cases o with
    | cells cs t fz => exact ⟨cs, t, fz, rfl⟩
    | _ => rw [e] at h; simp at h
theorem cell_on {w w' : World} (hb : Below w.heap.size w w') {a : Addr} {x : Value} (h : w.cell? a = some x) : w'.cell? a = some x := by
  obtain ⟨cs, t, fz, hk⟩ := cell_blk h
  rw [hb.cell (lt_of hk)]
  exact h

def eCells (p : EN) : List Value := [.string (mk p.1), .int .i64 p.2]
def eAt (w : World) (g o : Nat) (l : LL) : Prop := ∀ k (h : k < l.length), w.cell? ⟨g, o + k * 2, none⟩ = some (.string (mk (l[k]'h).1)) ∧ w.cell? ⟨g, o + k * 2 + 1, none⟩ = some (.int .i64 (l[k]'h).2)
def FS (w : World) (v : Value) (l : LL) : Prop := ∃ a c, v = .slice a l.length c ∧ l.length ≤ c ∧ (l = [] ∨ ∃ g o, a = some ⟨g, o, none⟩ ∧ eAt w g o l)
theorem FS.keep {w w' : World} {v : Value} {l : LL} (h : FS w v l) (hk : ∀ a x, w.cell? a = some x → w'.cell? a = some x) : FS w' v l := by
  obtain ⟨a, c, rfl, hc, h⟩ := h
  refine ⟨a, c, rfl, hc, h.imp id ?_⟩
  rintro ⟨g, o, e, hc⟩
  exact ⟨g, o, e, fun k hk' => ⟨hk _ _ (hc k hk').1, hk _ _ (hc k hk').2⟩⟩
theorem FS.below {w w' : World} {v : Value} {l : LL} (h : FS w v l) (hb : Below w.heap.size w w') : FS w' v l := h.keep (fun a x hx => cell_on hb hx)
theorem fflat_len (l : LL) : (l.flatMap eCells).length = l.length * 2 := by
  induction l with
  | nil => rfl
  | cons f r ih => rw [List.flatMap_cons, List.length_append, ih, List.length_cons]; simp [eCells]; omega
theorem fflat_at : ∀ (l : LL) (k : Nat) (h : k < l.length), (l.flatMap eCells)[k * 2]? = some (.string (mk (l[k]'h).1)) ∧ (l.flatMap eCells)[k * 2 + 1]? = some (.int .i64 (l[k]'h).2)
  | f :: r, 0, h => ⟨rfl, rfl⟩
  | f :: r, k + 1, h => by
    have ih := fflat_at r k (by simpa using h)
    have e : ∀ i, ((f :: r).flatMap eCells)[(k + 1) * 2 + i]? = (r.flatMap eCells)[k * 2 + i]? := fun i => by
      rw [List.flatMap_cons, List.getElem?_append_right (by simp [eCells]; omega)]
      congr 1
      simp [eCells]
      omega
    exact ⟨(e 0).trans ih.1, (e 1).trans ih.2⟩
abbrev OR (B : Nat) (w : World) (v : Value) (l : LL) : Prop := w.ownsRow B 50 2 v l.length (l.flatMap eCells)
theorem fs_row {B : Nat} {w : World} {l : LL} {v : Value} (h : OR B w v l) : FS w v l := by
  rcases h.2 with ⟨rfl, h0⟩ | ⟨g, cap, cur, rfl, hb, hg, q1, q2, q3, q4⟩
  · have : l = [] := List.length_eq_zero_iff.1 h0
    subst this
    exact ⟨none, 0, rfl, Nat.le_refl _, Or.inl rfl⟩
  · refine ⟨_, cap, rfl, q1, Or.inr ⟨g, 0, rfl, fun k hk => ?_⟩⟩
    obtain ⟨d0, d1⟩ := fflat_at l k hk
    have c0 := h.cellAt (k * 2) (by omega)
    have c1 := h.cellAt (k * 2 + 1) (by omega)
    rw [Nat.zero_add]
    exact ⟨c0.trans d0, c1.trans d1⟩
theorem row_later {w w' : World} {base e sz n : Nat} {v : Value} {xs : List Value} (h : w.ownsRow base e sz v n xs) (hk : ∀ g cs t fz, v.ownBlock = some g → w.heap[g]? = some (.cells cs t fz) → t = e → w'.heap[g]? = w.heap[g]?) : w'.ownsRow base e sz v n xs := by
  refine ⟨h.1, ?_⟩
  rcases h.2 with hn | ⟨g, cap, cur, rfl, hb, hg, rest⟩
  · exact Or.inl hn
  · exact Or.inr ⟨g, cap, cur, rfl, hb, (hk g _ _ _ rfl hg rfl).trans hg, rest⟩
theorem row_below {w w' : World} {base e sz n : Nat} {v : Value} {xs : List Value} (h : w.ownsRow base e sz v n xs) (hb : Below w.heap.size w w') : w'.ownsRow base e sz v n xs := row_later h (fun g cs t fz _ hg _ => hb.block g (lt_of hg))
theorem row_mono {w : World} {B B' e sz n : Nat} {v : Value} {xs : List Value} (h : w.ownsRow B e sz v n xs) (hB : B' ≤ B) : w.ownsRow B' e sz v n xs := by
  refine ⟨h.1, h.2.imp id ?_⟩
  rintro ⟨g, cap, cur, rfl, hb, rest⟩
  exact ⟨g, cap, cur, rfl, Nat.le_trans hB hb, rest⟩
theorem or_nil (B : Nat) (w : World) : OR B w (.slice none 0 0) [] := World.ownsRow_nil _ _ _ _
def ca (a : Option Addr) (c i : Nat) : Option Addr := if c = i then a else a.map (·.add (i * 2))
theorem cut_lo (a : Option Addr) (n c i : Nat) (hi : i ≤ n) (w : World) : (Instr.slice 24 (.slice a n c) (some (.int .i64 (i : Int))) none none).run Try.prog w = .ok (.slice (ca a c i) (n - i) (c - i)) w := by
  have h1 : (i : Int) ≤ n := by omega
  simp [Instr.slice, run_underlying Try.underlying24, Instr.sliceBounds, run_sliceBound, ca, h1]
theorem cut_hi (a : Option Addr) (n c j : Nat) (hj : j ≤ c) (w : World) : (Instr.slice 24 (.slice a n c) none (some (.int .i64 (j : Int))) none).run Try.prog w = .ok (.slice a j c) w := by
  have h2 : (j : Int) ≤ c := by omega
  have h0 : (if c = 0 then a else a.map (·.add 0)) = a := by
    by_cases h : c = 0
    · rw [if_pos h]
    · rw [if_neg h]
      cases a with
      | none => rfl
      | some a => simp [Addr.add]
  simp [Instr.slice, run_underlying Try.underlying24, Instr.sliceBounds, run_sliceBound, h2, h0]
theorem cut_any (a : Option Addr) (n c i j : Nat) (hij : i ≤ j) (hj : j ≤ c) (w : World) : (Instr.slice 24 (.slice a n c) (some (.int .i64 (i : Int))) (some (.int .i64 (j : Int))) none).run Try.prog w = .ok (.slice (ca a c i) (j - i) (c - i)) w := by
  have h1 : (i : Int) ≤ j := by omega
  have h2 : (j : Int) ≤ c := by omega
  simp [Instr.slice, run_underlying Try.underlying24, Instr.sliceBounds, run_sliceBound, ca, h1, h2]
theorem FS.cap {w : World} {a : Option Addr} {n c : Nat} {l : LL} (h : FS w (.slice a n c) l) : n = l.length ∧ l.length ≤ c := by
  obtain ⟨a', c', e, hc, h⟩ := h
  injection e with e1 e2 e3
  subst e3
  exact ⟨e2, hc⟩
theorem FS.at {w : World} {a : Option Addr} {n c : Nat} {l : LL} (h : FS w (.slice a n c) l) {k : Nat} (hk : k < l.length) : ∃ g o, a = some ⟨g, o, none⟩ ∧ eAt w g o l := by
  obtain ⟨a', c', e, hc, h⟩ := h
  injection e with e1 e2 e3
  subst e1
  rcases h with rfl | h
  · simp at hk
  · exact h
theorem FS.take {w : World} {a : Option Addr} {c : Nat} {l : LL} (h : FS w (.slice a l.length c) l) (j : Nat) (hj : j ≤ l.length) : FS w (.slice a j c) (l.take j) := by
  obtain ⟨a', c', e, hc, hfs⟩ := h
  injection e with e1 _ e3
  subst e1 e3
  have hl : (l.take j).length = j := by rw [List.length_take]; omega
  refine ⟨a, c, by rw [hl], by omega, ?_⟩
  rcases hfs with rfl | ⟨g, o, rfl, hq⟩
  · exact Or.inl (by simp)
  · refine Or.inr ⟨g, o, rfl, fun k hk => ?_⟩
    rw [List.getElem_take]
    exact hq k (by omega)
theorem FS.drop {w : World} {a : Option Addr} {c : Nat} {l : LL} (h : FS w (.slice a l.length c) l) (i : Nat) (hi : i ≤ l.length) : FS w (.slice (ca a c i) (l.length - i) (c - i)) (l.drop i) := by
  obtain ⟨a', c', e, hc, hfs⟩ := h
  injection e with e1 _ e3
  subst e1 e3
  have hl : (l.drop i).length = l.length - i := List.length_drop
  refine ⟨ca a c i, c - i, by rw [hl], by omega, ?_⟩
  by_cases hd : l.drop i = []
  · exact Or.inl hd
  · have hp : 0 < (l.drop i).length := List.length_pos_iff.2 hd
    rw [hl] at hp
    rcases hfs with rfl | ⟨g, o, rfl, hq⟩
    · simp at hp
    · refine Or.inr ⟨g, o + i * 2, ?_, fun k hk => ?_⟩
      · unfold ca
        rw [if_neg (by omega)]
        show some ((⟨g, o, none⟩ : Addr).add (i * 2)) = _
        rw [Addr.add_lit]
      · rw [List.getElem_drop]
        have := hq (i + k) (by omega)
        rw [show o + (i + k) * 2 = o + i * 2 + k * 2 from by omega] at this
        exact this
theorem parts_of {t : TypeId} {z : Value} {n m : Nat} (h : (Try.prog.info? t).map (fun i => (i.zero, i.size, i.bytes)) = some (some z, n, m)) : ∃ i, Try.prog.info? t = some i ∧ i.zero = some z ∧ i.size = n ∧ i.bytes = m := by
  cases e : Try.prog.info? t with
  | none => rw [e] at h; cases h
  | some i =>
    rw [e] at h
    simp at h
    exact ⟨i, rfl, h.1, h.2.1, h.2.2⟩
theorem info_sc : (Try.prog.info? 50).map (fun i => (i.zero, i.size, i.bytes)) = some (some (.agg #[.string ⟨#[]⟩, .int .i64 0]), 2, 24) := by kernel_rfl
theorem one_all (xs : LL) : ∀ u ∈ xs.flatMap eCells, u.oneCell' = true := by
  intro u hu
  obtain ⟨p, hp, h⟩ := List.mem_flatMap.1 hu
  simp only [eCells, List.mem_cons, List.not_mem_nil, or_false] at h
  rcases h with rfl | rfl <;> rfl
theorem fs_news {w : World} {g o : Nat} {l : LL} (h : eAt w g o l) : ∀ j u, (l.flatMap eCells)[j]? = some u → w.cell? ((⟨g, o, none⟩ : Addr).add j) = some u := fun j u hj => by
  have hlt : j < (l.flatMap eCells).length := (List.getElem?_eq_some_iff.1 hj).1
  rw [fflat_len] at hlt
  have hk : j / 2 < l.length := by omega
  obtain ⟨d0, d1⟩ := fflat_at l (j / 2) hk
  obtain ⟨c0, c1⟩ := h (j / 2) hk
  rw [Addr.add_lit]
  rcases Nat.mod_two_eq_zero_or_one j with e | e
  · have e2 : j = j / 2 * 2 := by omega
    rw [e2, d0] at hj
    rw [e2, c0]
    exact hj
  · have e2 : j = j / 2 * 2 + 1 := by omega
    rw [e2, d1] at hj
    rw [e2, show o + (j / 2 * 2 + 1) = o + j / 2 * 2 + 1 from by omega, c1]
    exact hj
theorem app_nil (a : Option Addr) (c : Nat) (w : World) : (Builtin.append_ #[24, 24] 24 #[.slice none 0 0, .slice a 0 c]).run Try.prog w = .ok (.slice none 0 0) w := by
  cases a with
  | none => kernel_rfl
  | some a => kernel_rfl
theorem append_fs (B : Nat) (w : World) (v u : Value) (xs ys : LL) (h : OR B w v xs) (hu : FS w u ys) (hb : B ≤ w.heap.size) (hn : xs.length + ys.length ≤ big) :
    ∃ v' w', (Builtin.append_ #[24, 24] 24 #[v, u]).run Try.prog w = .ok v' w' ∧ OR B w' v' (xs ++ ys) ∧ w.grownBy w' v.ownBlock := by
  obtain ⟨i, hi, hz0, hz1, hz2⟩ := parts_of info_sc
  obtain ⟨a, c, rfl, hc, hq⟩ := hu
  by_cases he : ys = []
  · subst he
    rw [List.append_nil]
    rcases h.2 with ⟨rfl, h0⟩ | ⟨g, cap, cur, rfl, hbg, hg, q1, q2, q3, q4⟩
    · exact ⟨_, w, app_nil a c w, h, ⟨rfl, rfl, rfl, Nat.le_refl _, fun _ _ _ => rfl⟩⟩
    · have hsrc : Src Try.prog i.size 24 (.slice a 0 c) 0 [] w := by
        cases a with
        | none => exact Src.ofNil w Try.underlying24 c
        | some a => exact Src.ofSlice w Try.underlying24 a 0 c [] (by simp) (fun j u hj => by simp at hj) (fun u hu => by cases hu)
      have hr := run_append_room_src (P := Try.prog) w 24 24 24 50 i Try.underlying24 hi g 0 xs.length cap (.slice a 0 c) 0 [] hsrc (by omega) (fun j hj => by simp at hj) (fun j hj => by simp at hj)
      refine ⟨.slice (some ⟨g, 0, none⟩) xs.length cap, w, ?_, h, ⟨rfl, rfl, rfl, Nat.le_refl _, fun _ _ _ => rfl⟩⟩
      rw [show ([] : LL).length = 0 from rfl, hr]
      simp [World.setCells]
  · rcases hq with hq | ⟨g, o, rfl, hq⟩
    · exact absurd hq he
    · obtain ⟨v', w', hr, ho, hg, _⟩ := run_append_own_wide (P := Try.prog) w B 24 24 50 i _ 2 24 Try.underlying24 hi hz0 hz1 hz2 rfl (by decide) v xs.length (xs.flatMap eCells) h ⟨g, o, none⟩ ys.length c (ys.flatMap eCells) (fflat_len ys) (fs_news hq) (one_all ys) (by unfold maxLen; unfold big at hn; omega) (by unfold big at hn; omega) hb
      refine ⟨v', w', hr, ?_, hg⟩
      show w'.ownsRow B _ 2 v' (xs ++ ys).length ((xs ++ ys).flatMap eCells)
      rw [List.length_append, List.flatMap_append]
      exact ho
structure Bd (w1 : World) (v : Value) (xs : LL) (w : World) : Prop where
  row : OR w1.heap.size w v xs
  bel : Below w1.heap.size w1 w
theorem bd_start (w : World) : Bd w (.slice none 0 0) [] w := ⟨or_nil _ _, Below.refl _ _⟩
theorem Bd.below {w1 W W' : World} {xs : LL} {v : Value} (h : Bd w1 v xs W) (hb : Below W.heap.size W W') : Bd w1 v xs W' := ⟨row_below h.row hb, ERow.bel h.bel hb (Nat.le_refl _)⟩
theorem bd_app {w1 W : World} {xs : LL} {v : Value} (h : Bd w1 v xs W) (u : Value) (ys : LL) (hu : FS W u ys) (hn : xs.length + ys.length ≤ big) :
    ∃ v' W', (Builtin.append_ #[24, 24] 24 #[v, u]).run Try.prog W = .ok v' W' ∧ Bd w1 v' (xs ++ ys) W' := by
  obtain ⟨v', W', hr, ho, hg⟩ := append_fs w1.heap.size W v u xs ys h.row hu h.bel.size hn
  exact ⟨v', W', hr, ho, h.bel.grown hg h.bel.size (fun k hk => (h.row.lt k hk).1)⟩
theorem fs_one (w : World) (e : EN) : FS (w.alloc (.cells #[.string (mk e.1), .int .i64 e.2] 50)) (.slice (some ⟨w.heap.size, 0, none⟩) 1 1) [e] := by
  refine ⟨_, 1, rfl, Nat.le_refl _, Or.inr ⟨w.heap.size, 0, rfl, fun k hk => ?_⟩⟩
  have h := heap_alloc_new w (.cells #[.string (mk e.1), .int .i64 e.2] 50)
  match k, hk with
  | 0, _ => exact ⟨by rw [Lib.cell_of_heap h]; rfl, by rw [Lib.cell_of_heap h]; rfl⟩

end Go.Proofs.Ytdcnkdkhanmklaa.ERow
end
section
namespace Go.Proofs.Ytdcnkdkhanmklaa.FRow
open Go.RowKit Go.Sort
open Go.Proofs.Ytdcnkdkhanmklaa.SetMath
open Go.Proofs.Ytdcnkdkhanmklaa.ValueMath
open Go.Proofs.Ytdcnkdkhanmklaa.Base (bs mk len_bs bs_mk mk_bs mk_size mk_inj mk_list hid_of lt_of set_at set_ne size_set)
set_option linter.unusedVariables false
set_option linter.unusedSimpArgs false
abbrev EN := Bs × Bs
abbrev LL := List EN
abbrev big : Nat := 7000000000000
theorem bdrew {B : Nat} {w w' : World} (h : Below B w w') (n : Nat) : Below B w (w'.drewN n) := ⟨h.os, h.tape, h.output, h.size, h.block⟩
theorem bel {B : Nat} {a b c : World} (h : Below B a b) (k : Below b.heap.size b c) (hB : B ≤ a.heap.size) : Below B a c := h.trans (k.mono (Nat.le_trans hB h.size))
theorem bnew (w : World) (o : Obj) : Below w.heap.size w (w.alloc o) := (Below.refl _ w).alloc (Nat.le_refl _) o
theorem cell_blk {w : World} {a : Addr} {v : Value} (h : w.cell? a = some v) : ∃ cs t fz, w.heap[a.block]? = some (.cells cs t fz) := by
  unfold World.cell? at h
  cases e : w.heap[a.block]? with
  | none => rw [e] at h; simp at h
  | some o =>
    cases o with
    | cells cs t fz => exact ⟨cs, t, fz, rfl⟩
    | _ => rw [e] at h; simp at h
theorem cell_on {w w' : World} (hb : Below w.heap.size w w') {a : Addr} {x : Value} (h : w.cell? a = some x) : w'.cell? a = some x := by
  obtain ⟨cs, t, fz, hk⟩ := cell_blk h
  rw [hb.cell (lt_of hk)]
  exact h

def eCells (p : EN) : List Value := [.string (mk p.1), .string (mk p.2)]
def eAt (w : World) (g o : Nat) (l : LL) : Prop := ∀ k (h : k < l.length), w.cell? ⟨g, o + k * 2, none⟩ = some (.string (mk (l[k]'h).1)) ∧ w.cell? ⟨g, o + k * 2 + 1, none⟩ = some (.string (mk (l[k]'h).2))
def FS (w : World) (v : Value) (l : LL) : Prop := ∃ a c, v = .slice a l.length c ∧ l.length ≤ c ∧ (l = [] ∨ ∃ g o, a = some ⟨g, o, none⟩ ∧ eAt w g o l)
theorem FS.keep {w w' : World} {v : Value} {l : LL} (h : FS w v l) (hk : ∀ a x, w.cell? a = some x → w'.cell? a = some x) : FS w' v l := by
  obtain ⟨a, c, rfl, hc, h⟩ := h
  refine ⟨a, c, rfl, hc, h.imp id ?_⟩
  rintro ⟨g, o, e, hc⟩
  exact ⟨g, o, e, fun k hk' => ⟨hk _ _ (hc k hk').1, hk _ _ (hc k hk').2⟩⟩
theorem FS.below {w w' : World} {v : Value} {l : LL} (h : FS w v l) (hb : Below w.heap.size w w') : FS w' v l := h.keep (fun a x hx => cell_on hb hx)
theorem fflat_len (l : LL) : (l.flatMap eCells).length = l.length * 2 := by
  induction l with
  | nil => rfl
  | cons f r ih => rw [List.flatMap_cons, List.length_append, ih, List.length_cons]; simp [eCells]; omega
theorem fflat_at : ∀ (l : LL) (k : Nat) (h : k < l.length), (l.flatMap eCells)[k * 2]? = some (.string (mk (l[k]'h).1)) ∧ (l.flatMap eCells)[k * 2 + 1]? = some (.string (mk (l[k]'h).2))
  | f :: r, 0, h => ⟨rfl, rfl⟩
  | f :: r, k + 1, h => by
    have ih := fflat_at r k (by simpa using h)
    have e : ∀ i, ((f :: r).flatMap eCells)[(k + 1) * 2 + i]? = (r.flatMap eCells)[k * 2 + i]? := fun i => by
      rw [List.flatMap_cons, List.getElem?_append_right (by simp [eCells]; omega)]
      congr 1
      simp [eCells]
      omega
    exact ⟨(e 0).trans ih.1, (e 1).trans ih.2⟩
abbrev OR (B : Nat) (w : World) (v : Value) (l : LL) : Prop := w.ownsRow B 48 2 v l.length (l.flatMap eCells)
theorem fs_row {B : Nat} {w : World} {l : LL} {v : Value} (h : OR B w v l) : FS w v l := by
  rcases h.2 with ⟨rfl, h0⟩ | ⟨g, cap, cur, rfl, hb, hg, q1, q2, q3, q4⟩
  · have : l = [] := List.length_eq_zero_iff.1 h0
    subst this
    exact ⟨none, 0, rfl, Nat.le_refl _, Or.inl rfl⟩
  · refine ⟨_, cap, rfl, q1, Or.inr ⟨g, 0, rfl, fun k hk => ?_⟩⟩
    obtain ⟨d0, d1⟩ := fflat_at l k hk
    have c0 := h.cellAt (k * 2) (by omega)
    have c1 := h.cellAt (k * 2 + 1) (by omega)
    rw [Nat.zero_add]
    exact ⟨c0.trans d0, c1.trans d1⟩
theorem row_later {w w' : World} {base e sz n : Nat} {v : Value} {xs : List Value} (h : w.ownsRow base e sz v n xs) (hk : ∀ g cs t fz, v.ownBlock = some g → w.heap[g]? = some (.cells cs t fz) → t = e → w'.heap[g]? = w.heap[g]?) : w'.ownsRow base e sz v n xs := by
  refine ⟨h.1, ?_⟩
  rcases h.2 with hn | ⟨g, cap, cur, rfl, hb, hg, rest⟩
  · exact Or.inl hn
  · exact Or.inr ⟨g, cap, cur, rfl, hb, (hk g _ _ _ rfl hg rfl).trans hg, rest⟩
theorem row_below {w w' : World} {base e sz n : Nat} {v : Value} {xs : List Value} (h : w.ownsRow base e sz v n xs) (hb : Below w.heap.size w w') : w'.ownsRow base e sz v n xs := row_later h (fun g cs t fz _ hg _ => hb.block g (lt_of hg))
theorem row_mono {w : World} {B B' e sz n : Nat} {v : Value} {xs : List Value} (h : w.ownsRow B e sz v n xs) (hB : B' ≤ B) : w.ownsRow B' e sz v n xs := by
  refine ⟨h.1, h.2.imp id ?_⟩
  rintro ⟨g, cap, cur, rfl, hb, rest⟩
  exact ⟨g, cap, cur, rfl, Nat.le_trans hB hb, rest⟩
theorem or_nil (B : Nat) (w : World) : OR B w (.slice none 0 0) [] := World.ownsRow_nil _ _ _ _
def ca (a : Option Addr) (c i : Nat) : Option Addr := if c = i then a else a.map (·.add (i * 2))
theorem cut_lo (a : Option Addr) (n c i : Nat) (hi : i ≤ n) (w : World) : (Instr.slice 23 (.slice a n c) (some (.int .i64 (i : Int))) none none).run Try.prog w = .ok (.slice (ca a c i) (n - i) (c - i)) w := by
  have h1 : (i : Int) ≤ n := by omega
  simp [Instr.slice, run_underlying Try.underlying23, Instr.sliceBounds, run_sliceBound, ca, h1]
theorem cut_hi (a : Option Addr) (n c j : Nat) (hj : j ≤ c) (w : World) : (Instr.slice 23 (.slice a n c) none (some (.int .i64 (j : Int))) none).run Try.prog w = .ok (.slice a j c) w := by
  have h2 : (j : Int) ≤ c := by omega
  have h0 : (if c = 0 then a else a.map (·.add 0)) = a := by
    by_cases h : c = 0
    · rw [if_pos h]
    · rw [if_neg h]
      cases a with
      | none => rfl
      | some a => simp [Addr.add]
  simp [Instr.slice, run_underlying Try.underlying23, Instr.sliceBounds, run_sliceBound, h2, h0]
theorem cut_any (a : Option Addr) (n c i j : Nat) (hij : i ≤ j) (hj : j ≤ c) (w : World) : (Instr.slice 23 (.slice a n c) (some (.int .i64 (i : Int))) (some (.int .i64 (j : Int))) none).run Try.prog w = .ok (.slice (ca a c i) (j - i) (c - i)) w := by
  have h1 : (i : Int) ≤ j := by omega
  have h2 : (j : Int) ≤ c := by omega
  simp [Instr.slice, run_underlying Try.underlying23, Instr.sliceBounds, run_sliceBound, ca, h1, h2]
theorem FS.cap {w : World} {a : Option Addr} {n c : Nat} {l : LL} (h : FS w (.slice a n c) l) : n = l.length ∧ l.length ≤ c := by
  obtain ⟨a', c', e, hc, h⟩ := h
  injection e with e1 e2 e3
  subst e3
  exact ⟨e2, hc⟩
theorem FS.at {w : World} {a : Option Addr} {n c : Nat} {l : LL} (h : FS w (.slice a n c) l) {k : Nat} (hk : k < l.length) : ∃ g o, a = some ⟨g, o, none⟩ ∧ eAt w g o l := by
  obtain ⟨a', c', e, hc, h⟩ := h
  injection e with e1 e2 e3
  subst e1
  rcases h with rfl | h
  · simp at hk
  · exact h
theorem FS.take {w : World} {a : Option Addr} {c : Nat} {l : LL} (h : FS w (.slice a l.length c) l) (j : Nat) (hj : j ≤ l.length) : FS w (.slice a j c) (l.take j) := by
  obtain ⟨a', c', e, hc, hfs⟩ := h
  injection e with e1 _ e3
  subst e1 e3
  have hl : (l.take j).length = j := by rw [List.length_take]; omega
  refine ⟨a, c, by rw [hl], by omega, ?_⟩
  rcases hfs with rfl | ⟨g, o, rfl, hq⟩
  · exact Or.inl (by simp)
  · refine Or.inr ⟨g, o, rfl, fun k hk => ?_⟩
    rw [List.getElem_take]
    exact hq k (by omega)
theorem FS.drop {w : World} {a : Option Addr} {c : Nat} {l : LL} (h : FS w (.slice a l.length c) l) (i : Nat) (hi : i ≤ l.length) : FS w (.slice (ca a c i) (l.length - i) (c - i)) (l.drop i) := by
  obtain ⟨a', c', e, hc, hfs⟩ := h
  injection e with e1 _ e3
  subst e1 e3
  have hl : (l.drop i).length = l.length - i := List.length_drop
  refine ⟨ca a c i, c - i, by rw [hl], by omega, ?_⟩
  by_cases hd : l.drop i = []
  · exact Or.inl hd
  · have hp : 0 < (l.drop i).length := List.length_pos_iff.2 hd
    rw [hl] at hp
    rcases hfs with rfl | ⟨g, o, rfl, hq⟩
    · simp at hp
    · refine Or.inr ⟨g, o + i * 2, ?_, fun k hk => ?_⟩
      · unfold ca
        rw [if_neg (by omega)]
        show some ((⟨g, o, none⟩ : Addr).add (i * 2)) = _
        rw [Addr.add_lit]
      · rw [List.getElem_drop]
        have := hq (i + k) (by omega)
        rw [show o + (i + k) * 2 = o + i * 2 + k * 2 from by omega] at this
        exact this
theorem parts_of {t : TypeId} {z : Value} {n m : Nat} (h : (Try.prog.info? t).map (fun i => (i.zero, i.size, i.bytes)) = some (some z, n, m)) : ∃ i, Try.prog.info? t = some i ∧ i.zero = some z ∧ i.size = n ∧ i.bytes = m := by
  cases e : Try.prog.info? t with
  | none => rw [e] at h; cases h
  | some i =>
    rw [e] at h
    simp at h
    exact ⟨i, rfl, h.1, h.2.1, h.2.2⟩
theorem info_sc : (Try.prog.info? 48).map (fun i => (i.zero, i.size, i.bytes)) = some (some (.agg #[.string ⟨#[]⟩, .string ⟨#[]⟩]), 2, 32) := by kernel_rfl
theorem one_all (xs : LL) : ∀ u ∈ xs.flatMap eCells, u.oneCell' = true := by
  intro u hu
  obtain ⟨p, hp, h⟩ := List.mem_flatMap.1 hu
  simp only [eCells, List.mem_cons, List.not_mem_nil, or_false] at h
  rcases h with rfl | rfl <;> rfl
theorem fs_news {w : World} {g o : Nat} {l : LL} (h : eAt w g o l) : ∀ j u, (l.flatMap eCells)[j]? = some u → w.cell? ((⟨g, o, none⟩ : Addr).add j) = some u := fun j u hj => by
  have hlt : j < (l.flatMap eCells).length := (List.getElem?_eq_some_iff.1 hj).1
  rw [fflat_len] at hlt
  have hk : j / 2 < l.length := by omega
  obtain ⟨d0, d1⟩ := fflat_at l (j / 2) hk
  obtain ⟨c0, c1⟩ := h (j / 2) hk
  rw [Addr.add_lit]
  rcases Nat.mod_two_eq_zero_or_one j with e | e
  · have e2 : j = j / 2 * 2 := by omega
    rw [e2, d0] at hj
    rw [e2, c0]
    exact hj
  · have e2 : j = j / 2 * 2 + 1 := by omega
    rw [e2, d1] at hj
    rw [e2, show o + (j / 2 * 2 + 1) = o + j / 2 * 2 + 1 from by omega, c1]
    exact hj
theorem app_nil (a : Option Addr) (c : Nat) (w : World) : (Builtin.append_ #[23, 23] 23 #[.slice none 0 0, .slice a 0 c]).run Try.prog w = .ok (.slice none 0 0) w := by
  cases a with
  | none => kernel_rfl
  | some a => kernel_rfl
theorem append_fs (B : Nat) (w : World) (v u : Value) (xs ys : LL) (h : OR B w v xs) (hu : FS w u ys) (hb : B ≤ w.heap.size) (hn : xs.length + ys.length ≤ big) :
    ∃ v' w', (Builtin.append_ #[23, 23] 23 #[v, u]).run Try.prog w = .ok v' w' ∧ OR B w' v' (xs ++ ys) ∧ w.grownBy w' v.ownBlock := by
  obtain ⟨i, hi, hz0, hz1, hz2⟩ := parts_of info_sc
  obtain ⟨a, c, rfl, hc, hq⟩ := hu
  by_cases he : ys = []
  · subst he
    rw [List.append_nil]
    rcases h.2 with ⟨rfl, h0⟩ | ⟨g, cap, cur, rfl, hbg, hg, q1, q2, q3, q4⟩
    · exact ⟨_, w, app_nil a c w, h, ⟨rfl, rfl, rfl, Nat.le_refl _, fun _ _ _ => rfl⟩⟩
    · have hsrc : Src Try.prog i.size 23 (.slice a 0 c) 0 [] w := by
        cases a with
        | none => exact Src.ofNil w Try.underlying23 c
        | some a => exact Src.ofSlice w Try.underlying23 a 0 c [] (by simp) (fun j u hj => by simp at hj) (fun u hu => by cases hu)
      have hr := run_append_room_src (P := Try.prog) w 23 23 23 48 i Try.underlying23 hi g 0 xs.length cap (.slice a 0 c) 0 [] hsrc (by omega) (fun j hj => by simp at hj) (fun j hj => by simp at hj)
      refine ⟨.slice (some ⟨g, 0, none⟩) xs.length cap, w, ?_, h, ⟨rfl, rfl, rfl, Nat.le_refl _, fun _ _ _ => rfl⟩⟩
      rw [show ([] : LL).length = 0 from rfl, hr]
      simp [World.setCells]
  · rcases hq with hq | ⟨g, o, rfl, hq⟩
    · exact absurd hq he
    · obtain ⟨v', w', hr, ho, hg, _⟩ := run_append_own_wide (P := Try.prog) w B 23 23 48 i _ 2 32 Try.underlying23 hi hz0 hz1 hz2 rfl (by decide) v xs.length (xs.flatMap eCells) h ⟨g, o, none⟩ ys.length c (ys.flatMap eCells) (fflat_len ys) (fs_news hq) (one_all ys) (by unfold maxLen; unfold big at hn; omega) (by unfold big at hn; omega) hb
      refine ⟨v', w', hr, ?_, hg⟩
      show w'.ownsRow B _ 2 v' (xs ++ ys).length ((xs ++ ys).flatMap eCells)
      rw [List.length_append, List.flatMap_append]
      exact ho
structure Bd (w1 : World) (v : Value) (xs : LL) (w : World) : Prop where
  row : OR w1.heap.size w v xs
  bel : Below w1.heap.size w1 w
theorem bd_start (w : World) : Bd w (.slice none 0 0) [] w := ⟨or_nil _ _, Below.refl _ _⟩
theorem Bd.below {w1 W W' : World} {xs : LL} {v : Value} (h : Bd w1 v xs W) (hb : Below W.heap.size W W') : Bd w1 v xs W' := ⟨row_below h.row hb, FRow.bel h.bel hb (Nat.le_refl _)⟩
theorem bd_app {w1 W : World} {xs : LL} {v : Value} (h : Bd w1 v xs W) (u : Value) (ys : LL) (hu : FS W u ys) (hn : xs.length + ys.length ≤ big) :
    ∃ v' W', (Builtin.append_ #[23, 23] 23 #[v, u]).run Try.prog W = .ok v' W' ∧ Bd w1 v' (xs ++ ys) W' := by
  obtain ⟨v', W', hr, ho, hg⟩ := append_fs w1.heap.size W v u xs ys h.row hu h.bel.size hn
  exact ⟨v', W', hr, ho, h.bel.grown hg h.bel.size (fun k hk => (h.row.lt k hk).1)⟩
theorem fs_one (w : World) (e : EN) : FS (w.alloc (.cells #[.string (mk e.1), .string (mk e.2)] 48)) (.slice (some ⟨w.heap.size, 0, none⟩) 1 1) [e] := by
  refine ⟨_, 1, rfl, Nat.le_refl _, Or.inr ⟨w.heap.size, 0, rfl, fun k hk => ?_⟩⟩
  have h := heap_alloc_new w (.cells #[.string (mk e.1), .string (mk e.2)] 48)
  match k, hk with
  | 0, _ => exact ⟨by rw [Lib.cell_of_heap h]; rfl, by rw [Lib.cell_of_heap h]; rfl⟩

end Go.Proofs.Ytdcnkdkhanmklaa.FRow
end
section
namespace Go.Proofs.Ytdcnkdkhanmklaa.Neq
open Go.RowKit Go.Maps
open Go.Proofs.Ytdcnkdkhanmklaa.SetMath
open Go.Proofs.Ytdcnkdkhanmklaa.Base

set_option maxRecDepth 100000 in
theorem eqS (n : Nat) (a c : ByteArray) (b d : Int) (w : World) : (Op.equalIn (n + 2) 50 (.agg #[.string a, .int .i64 b]) (.agg #[.string c, .int .i64 d])).run Try.prog w = .ok (a == c && b == d) w := by
  have h0 : Try.prog.stoodInHeld 50 = false := by kernel_rfl
  have hp : ∀ (x : ByteArray) (y : Int), (part 9 #[.string x, .int .i64 y] 0).run Try.prog w = .ok (.string x) w := fun x y => by kernel_rfl
  have hq : ∀ (x : ByteArray) (y : Int), (part 3 #[.string x, .int .i64 y] 1).run Try.prog w = .ok (.int .i64 y) w := fun x y => by kernel_rfl
  have he : ∀ x y : ByteArray, (Op.equalIn (n + 1) 9 (.string x) (.string y)).run Try.prog w = .ok (x == y) w := fun x y => by simp [Op.equalIn, run_underlying Try.underlying9]
  have hi : ∀ x y : Int, (Op.equalIn (n + 1) 3 (.int .i64 x) (.int .i64 y)).run Try.prog w = .ok (x == y) w := fun x y => by simp [Op.equalIn, run_underlying Try.underlying3]
  rw [run_equalIn_struct w (n + 1) 50 _ _ (by simp [Program.fieldsOf, Try.underlying50]) h0]
  simp [Program.fieldsOf, Try.underlying50, Op.eqFields, hp, hq, he, hi]
  cases (a == c) <;> by_cases h : b = d <;> simp [h]
set_option maxRecDepth 100000 in
theorem eqF (n : Nat) (a b c d : ByteArray) (w : World) : (Op.equalIn (n + 2) 48 (.agg #[.string a, .string b]) (.agg #[.string c, .string d])).run Try.prog w = .ok (a == c && b == d) w := by
  have h0 : Try.prog.stoodInHeld 48 = false := by kernel_rfl
  have hp : ∀ x y : ByteArray, (part 9 #[.string x, .string y] 0).run Try.prog w = .ok (.string x) w := fun x y => by kernel_rfl
  have hq : ∀ x y : ByteArray, (part 9 #[.string x, .string y] 1).run Try.prog w = .ok (.string y) w := fun x y => by kernel_rfl
  have he : ∀ x y : ByteArray, (Op.equalIn (n + 1) 9 (.string x) (.string y)).run Try.prog w = .ok (x == y) w := fun x y => by simp [Op.equalIn, run_underlying Try.underlying9]
  rw [run_equalIn_struct w (n + 1) 48 _ _ (by simp [Program.fieldsOf, Try.underlying48]) h0]
  simp [Program.fieldsOf, Try.underlying48, Op.eqFields, hp, hq, he]
  cases (a == c) <;> cases (b == d) <;> rfl
theorem bts_eq (x y : ByteArray) : (x == y) = (bs x == bs y) := by
  cases x; cases y
  rename_i a b
  rw [Bool.eq_iff_iff]
  constructor
  · intro h
    have : (ByteArray.mk a) = ByteArray.mk b := by
      have h' : (a == b) = true := h
      rw [eq_of_beq h']
    injection this with this
    simp [bs, this]
  · intro h
    have : a.toList = b.toList := eq_of_beq h
    have e : a = b := by cases a; cases b; simpa using this
    show (a == b) = true
    rw [e]; simp
theorem neqF (p q : Bs × Bs) (w : World) : (binOp .neq 48 (.agg #[.string (mk p.1), .string (mk p.2)]) (.agg #[.string (mk q.1), .string (mk q.2)])).run Try.prog w = .ok (.bool (decide (p ≠ q))) w := by
  have h := eqF 9998 (mk p.1) (mk p.2) (mk q.1) (mk q.2) w
  rw [bts_eq, bts_eq, bs_mk, bs_mk, bs_mk, bs_mk] at h
  have e : (p.1 == q.1 && p.2 == q.2) = decide (p = q) := by cases p; cases q; rw [Bool.eq_iff_iff]; simp
  rw [e] at h
  have h2 : (Op.equal 48 (.agg #[.string (mk p.1), .string (mk p.2)]) (.agg #[.string (mk q.1), .string (mk q.2)])).run Try.prog w = .ok (decide (p = q)) w := h
  simp [binOp, h2]
theorem eq_run (p q : Bs × Int) (w : World) : (Op.equal 50 (.agg #[.string (mk p.1), .int .i64 p.2]) (.agg #[.string (mk q.1), .int .i64 q.2])).run Try.prog w = .ok (decide (p = q)) w := by
  have h := eqS 9998 (mk p.1) (mk q.1) p.2 q.2 w
  rw [bts_eq, bs_mk, bs_mk] at h
  have e : (p.1 == q.1 && p.2 == q.2) = decide (p = q) := by cases p; cases q; rw [Bool.eq_iff_iff]; simp
  rw [e] at h
  exact h
theorem neqE (p q : Bs × Int) (w : World) : (binOp .neq 50 (.agg #[.string (mk p.1), .int .i64 p.2]) (.agg #[.string (mk q.1), .int .i64 q.2])).run Try.prog w = .ok (.bool (decide (p ≠ q))) w := by
  have h2 := eq_run p q w
  simp [binOp, h2]
end Go.Proofs.Ytdcnkdkhanmklaa.Neq
end
section
namespace Go.Proofs.Ytdcnkdkhanmklaa.Small
open Go.RowKit Go.Sort
open Go.Proofs.Ytdcnkdkhanmklaa.SetMath
open Go.Proofs.Ytdcnkdkhanmklaa.Base
set_option linter.unusedVariables false
set_option linter.unusedSimpArgs false
theorem adj_ris : ∀ {l : List Bs}, (∀ k (h : k + 1 < l.length), l[k] < l[k + 1]) → Ris l
  | [], _ => List.Pairwise.nil
  | [x], _ => List.pairwise_singleton _ _
  | x :: y :: r, h => by
    have ih : Ris (y :: r) := adj_ris (l := y :: r) fun k hk => h (k + 1) (by simpa using hk)
    have h0 : x < y := h 0 (by simp)
    refine List.pairwise_cons.2 ⟨fun z hz => ?_, ih⟩
    rcases List.mem_cons.1 hz with rfl | hz
    · exact h0
    · exact List.lt_trans h0 (ih.head z hz)
set_option maxHeartbeats 1000000 in
set_option maxRecDepth 100000 in
theorem valid_call {G : Nat → Prop} {w : World} {v : Value} {l : List El} (h : SL G w v l) (hb : l.length ≤ 140737488355328) :
    Calls Try.prog 96 #[v] w fun e w' => e = .returned (.bool (decide (Ris l))) ∧ ∃ m, w' = w.drewN m := by
  obtain ⟨a, c, rfl, hc, hr⟩ := h
  have H1 := hid_of hr
  obtain ⟨L, HL⟩ : ∃ L, Hid (L = l.length) := ⟨_, hid_of rfl⟩
  rw [← HL.out] at hb ⊢
  clear hr hc
  go_enter Try.func96, Try.ntmps96
  go_wp2_with fail
  go_loopg [3] L (fun g s3 wx => ∃ j : Nat, (j + 1 ≤ L ∨ j = 0) ∧ L ≤ j + g ∧ s3 = .int .i64 ((j : Int) + 1) ∧ Hid (∀ k (h : k + 1 < l.length), k < j → l[k] < l[k + 1]) ∧ Hid (∃ m, wx = w.drewN m))
  case atStart => exact ⟨0, by omega, by omega, rfl, fun k _ hk => by omega, 0, rfl⟩
  case round =>
    obtain ⟨j, hj, hg, rfl, HA, R⟩ := hrel
    by_cases hlt : j + 1 < L
    · obtain ⟨g', rfl⟩ : ∃ g', gk = g' + 1 := ⟨gk - 1, by omega⟩
      have hjl : j + 1 < l.length := by rw [← HL.out]; exact hlt
      obtain ⟨g1, o1, rfl, _, q1⟩ := Rd.get H1.out (by omega)
      have c1 : wr.cell? ⟨g1, o1 + j, none⟩ = some (.string (mk l[j])) := by obtain ⟨m, rfl⟩ := R.out; exact q1 j _ (List.getElem?_eq_getElem (by omega))
      have c2 : wr.cell? ⟨g1, o1 + (j + 1), none⟩ = some (.string (mk l[j + 1])) := by obtain ⟨m, rfl⟩ := R.out; exact q1 (j + 1) _ (List.getElem?_eq_getElem hjl)
      have HN : Hid (l[j] < l[j + 1] → ∀ k (h : k + 1 < l.length), k < j + 1 → l[k] < l[k + 1]) := hid_of fun q k hk hk2 => by
        by_cases e : k = j
        · subst e; exact q
        · exact HA.out k hk (by omega)
      have HF : Hid (¬ l[j] < l[j + 1] → decide (Ris l) = false) := hid_of fun q => decide_eq_false fun r => q (ris_at r (by omega) hjl)
      have hlx := str_lt l[j] l[j + 1]
      generalize l[j] = x at *
      generalize l[j + 1] = y at *
      have w1 : IntKind.i64.wrap ((j : Int) + 1) = (j : Int) + 1 := IntWalk.i64_in _ (by omega)
      have w2 : IntKind.i64.wrap ((j : Int) + 1 + 1) = (j : Int) + 1 + 1 := IntWalk.i64_in _ (by omega)
      have w3 : IntKind.i64.wrap ((j : Int) + 1 - 1) = (j : Int) := by rw [show (j : Int) + 1 - 1 = (j : Int) by omega]; exact IntWalk.i64_in _ (by omega)
      have d1 : (j : Int) + 1 < (L : Int) := by omega
      have d2 : j < L := by omega
      clear q1
      by_cases hxy : x < y
      · rw [decide_eq_true hxy] at hlx
        have HN2 := hid_of (HN.out hxy)
        clear hxy HN HF
        generalize mk x = X at *
        generalize mk y = Y at *
        go_wp2_with fail
        go_quiet (fail)
        go_wp2_with fail
        go_roundg g'
        case measure => omega
        case rel => exact ⟨j + 1, by omega, by omega, by simp, HN2, by obtain ⟨m, e⟩ := R.out; exact ⟨m + nq, by rw [e, World.drewN_drewN]⟩⟩
      · rw [decide_eq_false hxy] at hlx
        have HF2 := hid_of (HF.out hxy)
        clear hxy HN HF
        generalize mk x = X at *
        generalize mk y = Y at *
        go_wp2_with fail
        go_quiet (fail)
        go_wp2_with fail
        go_ret
        exact ⟨ret_b HF2.out.symm, by obtain ⟨m, e⟩ := R.out; exact ⟨m + nq, by rw [e, World.drewN_drewN]⟩⟩
    · have d1 : ¬ (j : Int) + 1 < (L : Int) := by omega
      have HT : Hid (decide (Ris l) = true) := hid_of (decide_eq_true (adj_ris fun k hk => HA.out k hk (by have := HL.out; omega)))
      go_wp2_with fail
      go_ret
      exact ⟨ret_b HT.out.symm, R.out⟩
set_option maxHeartbeats 1000000 in
set_option maxRecDepth 100000 in
theorem rvalid_call {G : Nat → Prop} {w : World} {v : Value} {l : List El} (h : SL G w v l) (hb : l.length ≤ 140737488355328) :
    Calls Try.prog 31 #[v] w fun e w' => e = .returned (.bool (decide (Ris l))) ∧ ∃ m, w' = w.drewN m := by
  obtain ⟨a, c, rfl, hc, hr⟩ := h
  have H1 := hid_of hr
  obtain ⟨L, HL⟩ : ∃ L, Hid (L = l.length) := ⟨_, hid_of rfl⟩
  rw [← HL.out] at hb ⊢
  clear hr hc
  go_enter Try.func31, Try.ntmps31
  go_wp2_with fail
  go_loopg [3] L (fun g s3 wx => ∃ j : Nat, (j + 1 ≤ L ∨ j = 0) ∧ L ≤ j + g ∧ s3 = .int .i64 ((j : Int) + 1) ∧ Hid (∀ k (h : k + 1 < l.length), k < j → l[k] < l[k + 1]) ∧ Hid (∃ m, wx = w.drewN m))
  case atStart => exact ⟨0, by omega, by omega, rfl, fun k _ hk => by omega, 0, rfl⟩
  case round =>
    obtain ⟨j, hj, hg, rfl, HA, R⟩ := hrel
    by_cases hlt : j + 1 < L
    · obtain ⟨g', rfl⟩ : ∃ g', gk = g' + 1 := ⟨gk - 1, by omega⟩
      have hjl : j + 1 < l.length := by rw [← HL.out]; exact hlt
      obtain ⟨g1, o1, rfl, _, q1⟩ := Rd.get H1.out (by omega)
      have c1 : wr.cell? ⟨g1, o1 + j, none⟩ = some (.string (mk l[j])) := by obtain ⟨m, rfl⟩ := R.out; exact q1 j _ (List.getElem?_eq_getElem (by omega))
      have c2 : wr.cell? ⟨g1, o1 + (j + 1), none⟩ = some (.string (mk l[j + 1])) := by obtain ⟨m, rfl⟩ := R.out; exact q1 (j + 1) _ (List.getElem?_eq_getElem hjl)
      have HN : Hid (l[j] < l[j + 1] → ∀ k (h : k + 1 < l.length), k < j + 1 → l[k] < l[k + 1]) := hid_of fun q k hk hk2 => by
        by_cases e : k = j
        · subst e; exact q
        · exact HA.out k hk (by omega)
      have HF : Hid (¬ l[j] < l[j + 1] → decide (Ris l) = false) := hid_of fun q => decide_eq_false fun r => q (ris_at r (by omega) hjl)
      have hlx := str_lt l[j] l[j + 1]
      generalize l[j] = x at *
      generalize l[j + 1] = y at *
      have w1 : IntKind.i64.wrap ((j : Int) + 1) = (j : Int) + 1 := IntWalk.i64_in _ (by omega)
      have w2 : IntKind.i64.wrap ((j : Int) + 1 + 1) = (j : Int) + 1 + 1 := IntWalk.i64_in _ (by omega)
      have w3 : IntKind.i64.wrap ((j : Int) + 1 - 1) = (j : Int) := by rw [show (j : Int) + 1 - 1 = (j : Int) by omega]; exact IntWalk.i64_in _ (by omega)
      have d1 : (j : Int) + 1 < (L : Int) := by omega
      have d2 : j < L := by omega
      clear q1
      by_cases hxy : x < y
      · rw [decide_eq_true hxy] at hlx
        have HN2 := hid_of (HN.out hxy)
        clear hxy HN HF
        generalize mk x = X at *
        generalize mk y = Y at *
        go_wp2_with fail
        go_quiet (fail)
        go_wp2_with fail
        go_roundg g'
        case measure => omega
        case rel => exact ⟨j + 1, by omega, by omega, by simp, HN2, by obtain ⟨m, e⟩ := R.out; exact ⟨m + nq, by rw [e, World.drewN_drewN]⟩⟩
      · rw [decide_eq_false hxy] at hlx
        have HF2 := hid_of (HF.out hxy)
        clear hxy HN HF
        generalize mk x = X at *
        generalize mk y = Y at *
        go_wp2_with fail
        go_quiet (fail)
        go_wp2_with fail
        go_ret
        exact ⟨ret_b HF2.out.symm, by obtain ⟨m, e⟩ := R.out; exact ⟨m + nq, by rw [e, World.drewN_drewN]⟩⟩
    · have d1 : ¬ (j : Int) + 1 < (L : Int) := by omega
      have HT : Hid (decide (Ris l) = true) := hid_of (decide_eq_true (adj_ris fun k hk => HA.out k hk (by have := HL.out; omega)))
      go_wp2_with fail
      go_ret
      exact ⟨ret_b HT.out.symm, R.out⟩
set_option maxHeartbeats 1000000 in
set_option maxRecDepth 100000 in
theorem same_call {G G' : Nat → Prop} {w : World} {u v : Value} {l r : List El} (h : SL G w u l) (h' : SL G' w v r) (hl : l.length ≤ 140737488355328) (hr : r.length ≤ 140737488355328) :
    Calls Try.prog 40 #[u, v] w fun e w' => e = .returned (.bool (decide (l = r))) ∧ ∃ m, w' = w.drewN m := by
  obtain ⟨a, c, rfl, hc, h1⟩ := h
  obtain ⟨a', c', rfl, hc', h2⟩ := h'
  by_cases hlen : l.length = r.length
  · have H1 := hid_of h1
    have H2 := hid_of h2
    have HE := hid_of hlen
    obtain ⟨L, HL⟩ : ∃ L, Hid (L = l.length) := ⟨_, hid_of rfl⟩
    rw [← hlen, ← HL.out]
    rw [← HL.out] at hl
    clear h1 h2 hc hc' hr hlen
    go_enter Try.func40, Try.ntmps40
    go_wp2_with fail
    go_loopg [5] L (fun g s5 wx => ∃ i : Nat, i ≤ L ∧ L ≤ i + g ∧ s5 = .int .i64 (i : Int) ∧ Hid (l.take i = r.take i) ∧ Hid (∃ m, wx = w.drewN m))
    case atStart => exact ⟨0, by omega, by omega, rfl, hid_of (by simp), 0, rfl⟩
    case round =>
      obtain ⟨i, hi, hg, rfl, HA, R⟩ := hrel
      by_cases hlt : i < L
      · obtain ⟨g', rfl⟩ : ∃ g', gk = g' + 1 := ⟨gk - 1, by omega⟩
        have k1 : i < l.length := by rw [← HL.out]; exact hlt
        have k2 : i < r.length := by rw [← HE.out]; exact k1
        obtain ⟨g1, o1, rfl, _, q1⟩ := Rd.get H1.out (by omega)
        obtain ⟨g2, o2, rfl, _, q2⟩ := Rd.get H2.out (by omega)
        have c1 : wr.cell? ⟨g1, o1 + i, none⟩ = some (.string (mk l[i])) := by obtain ⟨m, rfl⟩ := R.out; exact q1 i _ (List.getElem?_eq_getElem k1)
        have c2 : wr.cell? ⟨g2, o2 + i, none⟩ = some (.string (mk r[i])) := by obtain ⟨m, rfl⟩ := R.out; exact q2 i _ (List.getElem?_eq_getElem k2)
        have hlx := str_eq l[i] r[i]
        have HN : Hid (l[i] = r[i] → l.take (i + 1) = r.take (i + 1)) := hid_of fun q => by
          rw [List.take_succ_eq_append_getElem k1, List.take_succ_eq_append_getElem k2, HA.out, q]
        have HF : Hid (l[i] ≠ r[i] → decide (l = r) = false) := hid_of fun q => decide_eq_false fun e => q (by subst e; rfl)
        generalize l[i] = x at *
        generalize r[i] = y at *
        have w2 : IntKind.i64.wrap ((i : Int) + 1) = (i : Int) + 1 := IntWalk.i64_in _ (by omega)
        clear q1 q2
        by_cases hxy : x = y
        · rw [decide_eq_true hxy] at hlx
          have HN2 := hid_of (HN.out hxy)
          clear hxy HN HF
          generalize mk x = X at *
          generalize mk y = Y at *
          go_wp2_with fail
          go_quiet (fail)
          go_wp2_with fail
          go_roundg g'
          case measure => omega
          case rel => exact ⟨i + 1, by omega, by omega, by simp, HN2, by obtain ⟨m, e⟩ := R.out; exact ⟨m + nq, by rw [e, World.drewN_drewN]⟩⟩
        · rw [decide_eq_false hxy] at hlx
          have HF2 := hid_of (HF.out hxy)
          clear hxy HN HF
          generalize mk x = X at *
          generalize mk y = Y at *
          go_wp2_with fail
          go_quiet (fail)
          go_wp2_with fail
          go_ret
          exact ⟨ret_b HF2.out.symm, by obtain ⟨m, e⟩ := R.out; exact ⟨m + nq, by rw [e, World.drewN_drewN]⟩⟩
      · have HT : Hid (decide (l = r) = true) := hid_of (decide_eq_true (by
          have := HA.out
          rwa [List.take_of_length_le (by have := HL.out; omega), List.take_of_length_le (by have := HL.out; have := HE.out; omega)] at this))
        go_wp2_with fail
        go_ret
        exact ⟨ret_b HT.out.symm, R.out⟩
  · have HF : Hid (decide (l = r) = false) := hid_of (decide_eq_false fun e => hlen (by rw [e]))
    have g1 : ((l.length : Int) != (r.length : Int)) = true := by simp; omega
    generalize l.length = N at *
    generalize r.length = M at *
    clear h1 h2 hlen hl hr hc hc'
    go_enter Try.func40, Try.ntmps40
    go_wp2_with fail
    go_ret
    exact ⟨ret_b HF.out.symm, 0, rfl⟩
theorem same_true {G G' : Nat → Prop} {w : World} {u v : Value} {l r : List El} (h : SL G w u l) (h' : SL G' w v r) (e : l = r) (hl : l.length ≤ 140737488355328) :
    Calls Try.prog 40 #[u, v] w fun e w' => e = .returned (.bool true) ∧ ∃ m, w' = w.drewN m := by
  have := same_call h h' hl (by rw [← e]; exact hl)
  rwa [decide_eq_true e] at this
def ord (x y : Bs) : Int := if x < y then -1 else if y < x then 1 else 0
set_option maxRecDepth 100000 in
theorem nan_call (x : ByteArray) (w : World) : Calls Try.prog 111 #[.string x] w fun e w' => e = .returned (.bool false) ∧ w' = w := by
  go_enter Try.func111, Try.ntmps111
  go_wp2
  go_ret
  exact ⟨by simp, rfl⟩
set_option maxRecDepth 100000 in
theorem cmp_call (x y : Bs) (w : World) : Calls Try.prog 107 #[V x, V y] w fun e w' => e = .returned (.int .i64 (ord x y)) ∧ w' = w := by
  have h1 := str_lt x y
  have h2 := str_eq x y
  have N1 := hid_of (nan_call (mk x) w)
  have N2 := hid_of (nan_call (mk y) w)
  show Calls Try.prog 107 #[.string (mk x), .string (mk y)] w _
  unfold ord
  rcases lt_tot x y with q | q | q
  · rw [if_pos q]
    rw [decide_eq_true q] at h1
    rw [decide_eq_false (lt_ne q)] at h2
    clear q
    generalize mk x = X at *
    generalize mk y = Y at *
    go_enter Try.func107, Try.ntmps107
    go_wp2_with fail
    refine N1.out.mono ?_
    rintro e w1 ⟨rfl, rfl⟩
    go_wp2_with fail
    refine N2.out.mono ?_
    rintro e w1 ⟨rfl, rfl⟩
    go_wp2_with fail
    go_ret
    exact ⟨rfl, rfl⟩
  · rw [q, if_neg (List.lt_irrefl y), if_neg (List.lt_irrefl y)]
    rw [q, decide_eq_false (List.lt_irrefl y)] at h1
    rw [decide_eq_true q, q] at h2
    rw [q] at N1
    clear q
    generalize mk y = Y at *
    go_enter Try.func107, Try.ntmps107
    go_wp2_with fail
    refine N1.out.mono ?_
    rintro e w1 ⟨rfl, rfl⟩
    go_wp2_with fail
    refine N2.out.mono ?_
    rintro e w1 ⟨rfl, rfl⟩
    go_wp2_with fail
    go_ret
    exact ⟨rfl, rfl⟩
  · rw [if_neg (lt_not q), if_pos q]
    rw [decide_eq_false (lt_not q)] at h1
    rw [decide_eq_false (lt_ne q).symm] at h2
    clear q
    generalize mk x = X at *
    generalize mk y = Y at *
    go_enter Try.func107, Try.ntmps107
    go_wp2_with fail
    refine N1.out.mono ?_
    rintro e w1 ⟨rfl, rfl⟩
    go_wp2_with fail
    refine N2.out.mono ?_
    rintro e w1 ⟨rfl, rfl⟩
    go_wp2_with fail
    go_ret
    exact ⟨rfl, rfl⟩
end Go.Proofs.Ytdcnkdkhanmklaa.Small
end
