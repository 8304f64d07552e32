/- The reader in memory; what a call may touch; slices of bytes. -/
import Derived.Test.YtfkilbhhpipjbaaGreatDoorRows
import Derived.Test.YtfkilbhhpipjbaaGreatDoorReqMath
import Derived.Test.YtfkilbhhpipjbaaGreatDoorShelf
import Derived.WalkKit
import Derived.WalkSmall
import Derived.WalkLawsBesides
import Derived.WalkSpells
import Derived.BigQuiet
import Derived.Below
import Derived.Lib.SlBytesRow
import Derived.Laws.BytesArg
import Derived.Deep.LoopGhost
import Derived.Deep.RegionWith
namespace Go.Proofs.YtfkilbhhpipjbaaGreatDoor.Base
open Go.RowKit
open Go.Proofs.YtfkilbhhpipjbaaGreatDoor.ReqMath
set_option linter.unusedVariables false

def bs (s : ByteArray) : List UInt8 := s.data.toList
theorem len_bs (s : ByteArray) : (bs s).length = s.size := by unfold bs; simp
def mk (l : List UInt8) : ByteArray := ⟨l.toArray⟩
theorem bs_mk (l : List UInt8) : bs (mk l) = l := rfl
theorem mk_bs (s : ByteArray) : mk (bs s) = s := by cases s; simp [mk, bs]
theorem mk_size (l : List UInt8) : (mk l).size = l.length := by rw [← len_bs, bs_mk]
theorem of_bs {a b : ByteArray} (h : bs a = bs b) : a = b := by rw [← mk_bs a, ← mk_bs b, h]
theorem hid_of {p : Prop} (h : p) : Hid p := h

/- what stands outside F stands -/
structure Fr (F : Nat → Prop) (w w' : World) : Prop where
  os : w'.os = w.os
  tape : w'.tape = w.tape
  output : w'.output = w.output
  size : w.heap.size ≤ w'.heap.size
  block : ∀ k, k < w.heap.size → ¬ F k → w'.heap[k]? = w.heap[k]?
theorem Fr.refl (F : Nat → Prop) (w : World) : Fr F w w := ⟨rfl, rfl, rfl, Nat.le_refl _, fun _ _ _ => rfl⟩
theorem Fr.go {F G : Nat → Prop} {a b c : World} (h : Fr F a b) (k : Fr G b c) (hG : ∀ x, G x → F x ∨ a.heap.size ≤ x) : Fr F a c :=
  ⟨k.os.trans h.os, k.tape.trans h.tape, k.output.trans h.output, Nat.le_trans h.size k.size, fun i hi hn => (k.block i (Nat.lt_of_lt_of_le hi h.size) (fun hg => by
    rcases hG i hg with x | x
    · exact hn x
    · omega)).trans (h.block i hi hn)⟩
theorem Fr.trans {F : Nat → Prop} {a b c : World} (h : Fr F a b) (k : Fr F b c) : Fr F a c := h.go k (fun x hx => Or.inl hx)
theorem Fr.wide {F G : Nat → Prop} {a b : World} (h : Fr F a b) (hF : ∀ x, F x → G x) : Fr G a b := ⟨h.os, h.tape, h.output, h.size, fun k hk hn => h.block k hk (fun x => hn (hF k x))⟩
theorem Fr.of_below {F : Nat → Prop} {a b : World} (h : Below a.heap.size a b) : Fr F a b := ⟨h.os, h.tape, h.output, h.size, fun k hk _ => h.block k hk⟩
theorem Fr.below {F : Nat → Prop} {a b : World} (h : Fr F a b) (hF : ∀ x, F x → a.heap.size ≤ x) : Below a.heap.size a b := ⟨h.os, h.tape, h.output, h.size, fun k hk => h.block k hk (fun x => by have := hF k x; omega)⟩
theorem Fr.alloc {F : Nat → Prop} {a b : World} (h : Fr F a b) (o : Obj) : Fr F a (b.alloc o) := h.trans (Fr.of_below ((Below.refl _ b).alloc (Nat.le_refl _) o))
theorem Fr.drew {F : Nat → Prop} {a b : World} (h : Fr F a b) : Fr F a b.drew := ⟨h.os, h.tape, h.output, h.size, h.block⟩
theorem Fr.drewN {F : Nat → Prop} {a b : World} (h : Fr F a b) (n : Nat) : Fr F a (b.drewN n) := ⟨h.os, h.tape, h.output, h.size, h.block⟩
theorem Fr.set {F : Nat → Prop} {a b : World} (h : Fr F a b) (p : Addr) (hp : F p.block ∨ a.heap.size ≤ p.block) (v : Value) : Fr F a (b.setCell p v) := by
  have e : ∀ B, B ≤ p.block → Below B b (b.setCell p v) := fun B hB => (Below.refl B b).setCell hB v
  have e0 := e 0 (Nat.zero_le _)
  refine ⟨e0.os.trans h.os, e0.tape.trans h.tape, e0.output.trans h.output, Nat.le_trans h.size e0.size, fun k hk hn => ?_⟩
  have hne : k ≠ p.block := by
    rintro rfl
    rcases hp with x | x
    · exact hn x
    · omega
  rw [Below.heap_setCell _ _ _ _ hne]
  exact h.block k hk hn
theorem set_at {w : World} {b i : Nat} {cs : Array Value} {ty : TypeId} {fz : Nat × Nat} (h : w.heap[b]? = some (.cells cs ty fz)) (v : Value) : (w.setCell ⟨b, i, none⟩ v).heap[b]? = some (.cells (cs.setIfInBounds i v) ty fz) := by
  have e2 : (w.setCell ⟨b, i, none⟩ v).heap[b]? = (w.heap[b]?).map (fun | .cells c elem frozen => .cells (if (none : Option Nat).isSome then c else c.setIfInBounds i v) elem frozen | o => o) := by
    show (w.heap.modify b _)[b]? = _
    rw [Array.getElem?_modify, if_pos rfl]
    rfl
  rw [e2, h]; rfl
theorem set_ne {w : World} {b i k : Nat} (h : k ≠ b) (v : Value) : (w.setCell ⟨b, i, none⟩ v).heap[k]? = w.heap[k]? := Below.heap_setCell _ _ _ _ h
theorem Fr.one {b i : Nat} {w w' : World} (h : Fr (fun q => q = b) w w') (v : Value) : Fr (fun q => q = b) w (w'.setCell ⟨b, i, none⟩ v) := h.set ⟨b, i, none⟩ (Or.inl rfl) v
theorem lt_of {w : World} {b : Nat} {o : Obj} (h : w.heap[b]? = some o) : b < w.heap.size := (Array.getElem?_eq_some_iff.1 h).1

/- a slice of bytes -/
def BySl (w : World) (v : Value) (t : ByteArray) : Prop := ∃ a cap, v = .slice a t.size cap ∧ t.size ≤ cap ∧ ((a = none ∧ cap = 0) ∨ ∃ g o cs, a = some ⟨g, o, none⟩ ∧ w.heap[g]? = some (.cells cs 5 (0, 0)) ∧ o + cap ≤ cs.size ∧ Lib.Bytes w g o t)
def slBlock : Value → Option Nat
  | .slice (some a) _ _ => some a.block
  | _ => none
theorem BySl.nil (w : World) : BySl w (.slice none 0 0) ⟨#[]⟩ := ⟨none, 0, rfl, Nat.le_refl _, Or.inl ⟨rfl, rfl⟩⟩
theorem BySl.later {w w' : World} {v : Value} {t : ByteArray} (h : BySl w v t) (hb : ∀ g, slBlock v = some g → w'.heap[g]? = w.heap[g]?) : BySl w' v t := by
  obtain ⟨a, cap, rfl, hc, ⟨rfl, h0⟩ | ⟨g, o, cs, rfl, hg, ho, hB⟩⟩ := h
  · exact ⟨_, cap, rfl, hc, Or.inl ⟨rfl, h0⟩⟩
  · have e := hb g rfl
    refine ⟨_, cap, rfl, hc, Or.inr ⟨g, o, cs, rfl, e.trans hg, ho, fun i hi => ?_⟩⟩
    rw [← hB i hi]
    rw [Lib.cell_of_heap hg, Lib.cell_of_heap (e.trans hg)]
theorem info5 : (Tryz.prog.info? 5).map (fun i => (i.zero, i.size, i.bytes)) = some (some (.int .u8 0), 1, 1) := by kernel_rfl
theorem size5 (w : World) : (Go.sizeOf 5).run Tryz.prog w = .ok 1 w := Tryz.sizeOf5 w
theorem ext_size (t : ByteArray) (i j : Nat) (hj : j ≤ t.size) : (t.extract i j).size = j - i := by
  simp [ByteArray.size_extract]; omega
theorem ext_get (t : ByteArray) (i j k : Nat) (hj : j ≤ t.size) (hk : k < (t.extract i j).size) (hk2 : i + k < t.size) : (t.extract i j)[k] = t[i + k] := by
  simp [ByteArray.getElem_extract]
theorem und61 : Tryz.prog.underlying 61 = some (.slice (Tryz.prog.elem 61)) := by kernel_rfl
theorem elem61 : Tryz.prog.elem 61 = 5 := by kernel_rfl
theorem add_off (g o k : Nat) : (⟨g, o, none⟩ : Addr).add k = ⟨g, o + k, none⟩ := by
  unfold Addr.add
  by_cases h : k = 0
  · subst h; rfl
  · simp [h]
theorem add_block (a : Addr) (k : Nat) : (a.add k).block = a.block := by
  unfold Addr.add
  by_cases h : k = 0 <;> simp [h]
theorem sl_block (a : Option Addr) (l h m : Nat) : slBlock (sliced a l h m 1) = slBlock (.slice a 0 0) := by
  unfold sliced slBlock
  by_cases hcn : m = l
  · rw [if_pos hcn]
    cases a <;> rfl
  · rw [if_neg hcn]
    cases a with
    | none => rfl
    | some a => simp [add_block]
theorem sl_block2 (a : Option Addr) (n m : Nat) : slBlock (.slice a n m) = slBlock (.slice a 0 0) := by cases a <;> rfl
theorem BySl.cut {w : World} {a : Option Addr} {cap : Nat} {t : ByteArray} (hc : t.size ≤ cap) (hh : (a = none ∧ cap = 0) ∨ ∃ g o cs, a = some ⟨g, o, none⟩ ∧ w.heap[g]? = some (.cells cs 5 (0, 0)) ∧ o + cap ≤ cs.size ∧ Lib.Bytes w g o t) (n m : Nat) (hn : n ≤ m) (hm : m ≤ t.size) :
    BySl w (sliced a n m cap 1) (t.extract n m) := by
  have es := ext_size t n m hm
  refine ⟨if cap = n then a else a.map (·.add (n * 1)), cap - n, ?_, by omega, ?_⟩
  · unfold sliced; rw [es]
  · rcases hh with ⟨rfl, h0⟩ | ⟨g, o, cs, rfl, hg, ho, hB⟩
    · refine Or.inl ⟨by split <;> rfl, by omega⟩
    · by_cases hcn : cap = n
      · rw [if_pos hcn]
        exact Or.inr ⟨g, o, cs, rfl, hg, by omega, fun i hi => by omega⟩
      · rw [if_neg hcn]
        refine Or.inr ⟨g, o + n * 1, cs, congrArg some (add_off g o (n * 1)), hg, by omega, fun i hi => ?_⟩
        rw [ext_get t n m i hm hi (by omega), show o + n * 1 + i = o + (n + i) from by omega]
        exact hB (n + i) (by omega)
theorem BySl.from {w : World} {v : Value} {t : ByteArray} (h : BySl w v t) (n : Nat) (x : Int) (hx : x = (n : Int)) (hn : n ≤ t.size) :
    ∃ a c, BySl w (.slice a (t.size - n) c) (t.extract n t.size) ∧ (slBlock (.slice a (t.size - n) c) = slBlock v) ∧ ∀ W, (Instr.slice 61 v (some (.int .i64 x)) none none).run Tryz.prog W = .ok (.slice a (t.size - n) c) W := by
  subst hx
  obtain ⟨a, cap, rfl, hc, hh⟩ := h
  refine ⟨_, _, BySl.cut hc hh n t.size hn (Nat.le_refl _), (sl_block _ _ _ _).trans (sl_block2 a t.size cap).symm, fun W => ?_⟩
  rw [run_slice_l (P := Tryz.prog) W 61 a t.size cap und61 .i64 (n : Int) (by omega) (by omega), elem61, size5]
  rfl
theorem BySl.to {w : World} {v : Value} {t : ByteArray} (h : BySl w v t) (n : Nat) (x : Int) (hx : x = (n : Int)) (hn : n ≤ t.size) :
    ∃ a c, BySl w (.slice a n c) (t.extract 0 n) ∧ (slBlock (.slice a n c) = slBlock v) ∧ ∀ W, (Instr.slice 61 v none (some (.int .i64 x)) none).run Tryz.prog W = .ok (.slice a n c) W := by
  subst hx
  obtain ⟨a, cap, rfl, hc, hh⟩ := h
  refine ⟨_, _, BySl.cut hc hh 0 n (Nat.zero_le _) hn, (sl_block _ _ _ _).trans (sl_block2 a t.size cap).symm, fun W => ?_⟩
  rw [run_slice_h (P := Tryz.prog) W 61 a t.size cap und61 .i64 (n : Int) (by omega) (by omega), elem61, size5]
  rfl
theorem size0 {t : ByteArray} (h : t.size = 0) : t = ⟨#[]⟩ := by
  apply of_bs
  have : bs t = [] := List.length_eq_zero_iff.1 (by rw [len_bs]; exact h)
  rw [this]; rfl
theorem BySl.conv {w : World} {v : Value} {t : ByteArray} (h : BySl w v t) : (convert 61 9 v).run Tryz.prog w = .ok (.string t) w := by
  obtain ⟨a, cap, rfl, hc, hh⟩ := h
  rcases hh with ⟨rfl, h0⟩ | ⟨g, o, cs, rfl, hg, ho, hB⟩
  · subst h0
    have e := size0 (Nat.le_zero.1 hc)
    subst e
    exact run_convert_bytes_nil (P := Tryz.prog) w 61 5 Tryz.underlying61 Tryz.underlying5 _ 0 9 Tryz.underlying9
  · exact Lib.run_convert_whole (P := Tryz.prog) w 61 5 9 Tryz.underlying61 Tryz.underlying5 Tryz.underlying9 g o t hB cap
theorem BySl.index {w : World} {v : Value} {t : ByteArray} (h : BySl w v t) : Calls Tryz.prog 95 #[v, .int .u8 10] w fun e w' => e = .returned (.int .i64 (Lib.indexByte (bs t) 10)) ∧ w' = w := by
  obtain ⟨a, cap, rfl, hc, hh⟩ := h
  rcases hh with ⟨rfl, h0⟩ | ⟨g, o, cs, rfl, hg, ho, hB⟩
  · subst h0
    have e := size0 (Nat.le_zero.1 hc)
    subst e
    refine (Tryz.bytes_IndexByte_nil 10 w).mono ?_
    rintro e w' ⟨rfl, rfl⟩
    exact ⟨rfl, rfl⟩
  · exact Tryz.bytes_IndexByte_bytes g o cap t 10 w hB

/- the reader -/
def RB (b : Nat) (L : Lim) (lv : Value) (k : Nat) (wv : Value) (wanted read used : Nat) (ft : ByteArray) (w : World) : Prop :=
  w.heap[b]? = some (.cells #[.int .i64 L.bulk, .int .i64 L.args, .int .i64 L.line, lv, .int .i64 k, wv, .int .i64 wanted, .int .i64 read, .int .i64 used, .string ft] 75 (0, 0))
theorem RB.cell {b : Nat} {L : Lim} {lv : Value} {k : Nat} {wv : Value} {wanted read used : Nat} {ft : ByteArray} {w : World} (h : RB b L lv k wv wanted read used ft w) (i : Nat) :
    w.cell? ⟨b, i, none⟩ = (#[.int .i64 L.bulk, .int .i64 L.args, .int .i64 L.line, lv, .int .i64 k, wv, .int .i64 wanted, .int .i64 read, .int .i64 used, .string ft] : Array Value)[i]? := by
  rw [Lib.cell_of_heap h]
theorem RB.frozen {b : Nat} {L : Lim} {lv : Value} {k : Nat} {wv : Value} {wanted read used : Nat} {ft : ByteArray} {w : World} (h : RB b L lv k wv wanted read used ft w) (i : Nat) : w.frozen? ⟨b, i, none⟩ = false := Lib.frozen_of_heap h i
end Go.Proofs.YtfkilbhhpipjbaaGreatDoor.Base
