/- A dict in memory: its own block and its map; slices of fields; what a call may touch. -/
import Derived.Test.YtolihcgpnoacaaaDoorRows
import Derived.Test.YtolihcgpnoacaaaDoorDictMath
import Derived.WalkKit
import Derived.WalkSmall
import Derived.WalkLawsBesides
import Derived.WalkSpells
import Derived.BigQuiet
import Derived.Below
import Derived.Deep.LoopGhost
import Derived.Deep.RegionWith
import Derived.Deep.RegionHeld3
import Derived.Deep.AppendSrc
import Derived.Maps.RangeWalk
import Derived.Sort.OwnSorted
import Derived.Sort.Walk0
import Derived.Lib.Strings
namespace Go.Proofs.YtolihcgpnoacaaaDoor.Base
open Go.RowKit Go.Maps
open Go.Proofs.YtolihcgpnoacaaaDoor.DictMath
set_option linter.unusedVariables false

def bs (s : ByteArray) : List UInt8 := s.data.toList
theorem len_bs (s : ByteArray) : (bs s).length = s.size := by unfold bs; simp
def mk (l : List UInt8) : ByteArray := ⟨l.toArray⟩
theorem bs_mk (l : List UInt8) : bs (mk l) = l := rfl
theorem mk_bs (s : ByteArray) : mk (bs s) = s := by cases s; simp [mk, bs]
theorem mk_size (l : List UInt8) : (mk l).size = l.length := by rw [← len_bs, bs_mk]
theorem of_bs {a b : ByteArray} (h : bs a = bs b) : a = b := by rw [← mk_bs a, ← mk_bs b, h]
theorem mk_list (l : List UInt8) : (mk l).toList = l := by rw [Lib.toList_data]; rfl
theorem hid_of {p : Prop} (h : p) : Hid p := h
theorem lt_of {w : World} {b : Nat} {o : Obj} (h : w.heap[b]? = some o) : b < w.heap.size := (Array.getElem?_eq_some_iff.1 h).1
theorem str_eq (a b : List UInt8) : ((mk a).toList == (mk b).toList) = (a == b) := by rw [mk_list, mk_list]

theorem bdrew {B : Nat} {w w' : World} (h : Below B w w') (n : Nat) : Below B w (w'.drewN n) := ⟨h.os, h.tape, h.output, h.size, h.block⟩
theorem bel {B : Nat} {a b c : World} (h : Below B a b) (k : Below b.heap.size b c) (hB : B ≤ a.heap.size) : Below B a c := h.trans (k.mono (Nat.le_trans hB h.size))
theorem ret_b {a b : Bool} (h : a = b) : Ending.returned (.bool a) = .returned (.bool b) := by rw [h]
/- one map has turned, all else stands -/
structure Mv (m : Nat) (w w' : World) : Prop where
  grown : w.grownBy w' (some m)
  was : ∃ es c, w.heap[m]? = some (.map es c)
  is : ∃ es c, w'.heap[m]? = some (.map es c)
theorem cell_blk {w : World} {a : Addr} {v : Value} (h : w.cell? a = some v) : ∃ cs t fz, w.heap[a.block]? = some (.cells cs t fz) := by
  unfold World.cell? at h
  cases e : w.heap[a.block]? with
  | none => rw [e] at h; simp at h
  | some o =>
    cases o with
    | cells cs t fz => exact ⟨cs, t, fz, rfl⟩
    | _ => rw [e] at h; simp at h
theorem Mv.blk {m : Nat} {w w' : World} (h : Mv m w w') {k : Nat} {cs : Array Value} {t : TypeId} {fz : Nat × Nat} (hk : w.heap[k]? = some (.cells cs t fz)) : w'.heap[k]? = some (.cells cs t fz) := by
  obtain ⟨es, c, hm⟩ := h.was
  rw [h.grown.block k (lt_of hk) (fun e => by cases e; rw [hm] at hk; cases hk)]
  exact hk
theorem Mv.cell {m : Nat} {w w' : World} (h : Mv m w w') {a : Addr} {v : Value} (hc : w.cell? a = some v) : w'.cell? a = some v := by
  obtain ⟨cs, t, fz, hb⟩ := cell_blk hc
  unfold World.cell? at hc ⊢
  rw [h.blk hb]
  rw [hb] at hc
  exact hc
theorem Mv.trans {m : Nat} {a b c : World} (h : Mv m a b) (k : Mv m b c) : Mv m a c := ⟨h.grown.trans k.grown, h.was, k.is⟩
theorem Mv.below {m B : Nat} {w0 a b : World} (h : Mv m a b) (hb : Below B w0 a) (hm : B ≤ m) (hB : B ≤ w0.heap.size) : Below B w0 b := hb.grown h.grown (Nat.le_trans hB hb.size) (fun j hj => by cases hj; exact hm)

def RC : Value → Option (DataW Unit × List MemPlace)
  | .agg cs => match cs.toList with
    | [.string s] => some (.lit (.string (bs s)), [])
    | _ => none
  | _ => none
theorem RC_at (s : ByteArray) : RC (.agg #[.string s]) = some (.lit (.string (bs s)), []) := rfl
theorem RC_inv {v : Value} {y : DataW Unit × List MemPlace} (h : RC v = some y) : ∃ s : ByteArray, v = .agg #[.string s] ∧ y.1 = .lit (.string (bs s)) := by
  unfold RC at h
  split at h
  · rename_i cs
    split at h
    · rename_i s e
      cases h
      exact ⟨s, by cases cs; simp at e; rw [e], rfl⟩
    · cases h
  · cases h

abbrev big : Nat := 140737488355328
structure DK (b m : Nat) (l : FL) (w : World) : Prop where
  blk : w.heap[b]? = some (.cells #[.map (some m)] 61 (0, 0))
  map : w.ownsMap Tryd.prog 9 RC m l.length (toD l)
  ris : Ris l
  len : ∀ p ∈ l, p.1.length ≤ 140737488355328 ∧ p.2.length ≤ 140737488355328
theorem owns_norm {w : World} {b n : Nat} {l : FL} (h : w.ownsMap Tryd.prog 9 RC b n (toD l)) : w.ownsMap Tryd.prog 9 RC b l.length (toD l) := by
  obtain ⟨es, c, hb, F, hs, hD⟩ := h
  refine ⟨es, c, hb, F, ?_, hD⟩
  have e : Maps.size (toD l) = es.size := by rw [hD]; simp [Maps.size, length_sorted]
  rw [size_D] at e
  omega
theorem owns_later {w w' : World} {b n : Nat} {D : DataW Unit} (h : w.ownsMap Tryd.prog 9 RC b n D) (hk : w'.heap[b]? = w.heap[b]?) : w'.ownsMap Tryd.prog 9 RC b n D := by
  obtain ⟨es, c, hb, rest⟩ := h
  exact ⟨es, c, hk.trans hb, rest⟩
theorem owns_map {w : World} {b n : Nat} {D : DataW Unit} (h : w.ownsMap Tryd.prog 9 RC b n D) : ∃ es c, w.heap[b]? = some (.map es c) := by
  obtain ⟨es, c, hb, _⟩ := h
  exact ⟨es, c, hb⟩
theorem Mv.of_turned {m : Nat} {w w' : World} (h : w.mapTurned w' m) : Mv m w w' := by
  have hg := h.grown
  obtain ⟨es, c, es', c', h1, rfl⟩ := h
  exact ⟨hg, ⟨es, c, h1⟩, ⟨es', c', ChangeMaps.heap_setBlock_same h1 _⟩⟩
theorem Mv.of_below {m : Nat} {w w' : World} (h : Below w.heap.size w w') (hm : ∃ es c, w.heap[m]? = some (.map es c)) : Mv m w w' := by
  obtain ⟨es, c, h1⟩ := hm
  exact ⟨⟨h.os, h.tape, h.output, h.size, fun k hk _ => h.block k hk⟩, ⟨es, c, h1⟩, ⟨es, c, (h.block m (lt_of h1)).trans h1⟩⟩
theorem DK.below {b m : Nat} {l : FL} {w w' : World} (h : DK b m l w) (hb : Below w.heap.size w w') : DK b m l w' :=
  ⟨(hb.block b (lt_of h.blk)).trans h.blk, owns_later h.map (hb.block m h.map.lt), h.ris, h.len⟩
theorem DK.alloc {b m : Nat} {l : FL} {w : World} (h : DK b m l w) (o : Obj) : DK b m l (w.alloc o) := h.below ((Below.refl _ w).alloc (Nat.le_refl _) o)
theorem DK.drewN {b m : Nat} {l : FL} {w : World} (h : DK b m l w) (n : Nat) : DK b m l (w.drewN n) := h.below ⟨rfl, rfl, rfl, Nat.le_refl _, fun _ _ => rfl⟩
theorem DK.cell {b m : Nat} {l : FL} {w : World} (h : DK b m l w) : w.cell? ⟨b, 0, none⟩ = some (.map (some m)) := Lib.cell_of_heap h.blk 0
theorem DK.frozen {b m : Nat} {l : FL} {w : World} (h : DK b m l w) : w.frozen? ⟨b, 0, none⟩ = false := Lib.frozen_of_heap h.blk 0
theorem DK.other {b m m' : Nat} {l : FL} {w w' : World} (h : DK b m l w) (hv : Mv m' w w') (hne : m ≠ m') : DK b m l w' :=
  ⟨hv.blk h.blk, owns_later h.map (hv.grown.block m h.map.lt (fun e => hne (by cases e; rfl))), h.ris, h.len⟩
def ptr (f : Nat) : Value := .pointer (some ⟨f, 0, none⟩)

/- a slice of fields, to be read -/
def FS (w : World) (v : Value) (l : FL) : Prop := ∃ a c, v = .slice a l.length c ∧ (l = [] ∨ ∃ g o, a = some ⟨g, o, none⟩ ∧ ∀ k (h : k < l.length), w.cell? ⟨g, o + k * 2, none⟩ = some (.string (mk (l[k]'h).1)) ∧ w.cell? ⟨g, o + k * 2 + 1, none⟩ = some (.string (mk (l[k]'h).2)))
theorem FS.keep {w w' : World} {v : Value} {l : FL} (h : FS w v l) (hk : ∀ a x, w.cell? a = some x → w'.cell? a = some x) : FS w' v l := by
  obtain ⟨a, c, rfl, h⟩ := h
  refine ⟨a, c, rfl, h.imp id ?_⟩
  rintro ⟨g, o, e, hc⟩
  exact ⟨g, o, e, fun k hk' => ⟨hk _ _ (hc k hk').1, hk _ _ (hc k hk').2⟩⟩
theorem cell_on {w w' : World} (hb : Below w.heap.size w w') {a : Addr} {x : Value} (h : w.cell? a = some x) : w'.cell? a = some x := by
  obtain ⟨cs, t, fz, hk⟩ := cell_blk h
  rw [hb.cell (lt_of hk)]
  exact h
theorem FS.below {w w' : World} {v : Value} {l : FL} (h : FS w v l) (hb : Below w.heap.size w w') : FS w' v l := h.keep (fun a x hx => cell_on hb hx)
theorem FS.mv {m : Nat} {w w' : World} {v : Value} {l : FL} (h : FS w v l) (hb : Mv m w w') : FS w' v l := h.keep (fun a x hx => hb.cell hx)
def fCells (p : Bs × Bs) : List Value := [.string (mk p.1), .string (mk p.2)]
theorem fflat_len (l : FL) : (l.flatMap fCells).length = l.length * 2 := by
  induction l with
  | nil => rfl
  | cons f r ih => rw [List.flatMap_cons, List.length_append, ih, List.length_cons]; simp [fCells]; omega
theorem fflat_at : ∀ (l : FL) (k : Nat) (h : k < l.length), (l.flatMap fCells)[k * 2]? = some (.string (mk (l[k]'h).1)) ∧ (l.flatMap fCells)[k * 2 + 1]? = some (.string (mk (l[k]'h).2))
  | f :: r, 0, h => ⟨rfl, rfl⟩
  | f :: r, k + 1, h => by
    have ih := fflat_at r k (by simpa using h)
    have e : ∀ i, ((f :: r).flatMap fCells)[(k + 1) * 2 + i]? = (r.flatMap fCells)[k * 2 + i]? := fun i => by
      rw [List.flatMap_cons, List.getElem?_append_right (by simp [fCells]; omega)]
      congr 1
      simp [fCells]
      omega
    exact ⟨(e 0).trans ih.1, (e 1).trans ih.2⟩
/- fields that are the call's own -/
theorem fs_row {B : Nat} {w : World} {l : FL} {v : Value} (h : w.ownsRow B 52 2 v l.length (l.flatMap fCells)) : FS w v l := by
  rcases h.2 with ⟨rfl, h0⟩ | ⟨g, cap, cur, rfl, hb, hg, q1, q2, q3, q4⟩
  · have : l = [] := List.length_eq_zero_iff.1 h0
    subst this
    exact ⟨none, 0, rfl, Or.inl rfl⟩
  · refine ⟨_, cap, rfl, Or.inr ⟨g, 0, rfl, fun k hk => ?_⟩⟩
    obtain ⟨d0, d1⟩ := fflat_at l k hk
    have c0 := h.cellAt (k * 2) (by omega)
    have c1 := h.cellAt (k * 2 + 1) (by omega)
    rw [Nat.zero_add]
    exact ⟨c0.trans d0, c1.trans d1⟩
theorem row_later {w w' : World} {base e sz n : Nat} {v : Value} {xs : List Value} (h : w.ownsRow base e sz v n xs) (hk : ∀ g cs t fz, v.ownBlock = some g → w.heap[g]? = some (.cells cs t fz) → w'.heap[g]? = w.heap[g]?) : w'.ownsRow base e sz v n xs := by
  refine ⟨h.1, ?_⟩
  rcases h.2 with hn | ⟨g, cap, cur, rfl, hb, hg, rest⟩
  · exact Or.inl hn
  · exact Or.inr ⟨g, cap, cur, rfl, hb, (hk g _ _ _ rfl hg).trans hg, rest⟩
theorem row_below {w w' : World} {base e sz n : Nat} {v : Value} {xs : List Value} (h : w.ownsRow base e sz v n xs) (hb : Below w.heap.size w w') : w'.ownsRow base e sz v n xs := row_later h (fun g cs t fz _ hg => hb.block g (lt_of hg))
theorem row_mv {m : Nat} {w w' : World} {base e sz n : Nat} {v : Value} {xs : List Value} (h : w.ownsRow base e sz v n xs) (hb : Mv m w w') : w'.ownsRow base e sz v n xs := row_later h (fun g cs t fz _ hg => by rw [hb.blk hg, hg])

/- the map -/
theorem law9 : Keyed Tryd.prog 9 := string_keyed Tryd.underlying9
theorem zero63 (w : World) : (zeroValue 63).run Tryd.prog w = .ok (.agg #[.string ⟨#[]⟩]) w := by kernel_rfl
set_option maxRecDepth 100000 in
theorem key9 (s : ByteArray) (hs : s.size ≤ 140737488355328) : keyOf Tryd.prog 9 (.string s) = some (.string (bs s)) := WideMaps.keyOf_string_mk Tryd.underlying9 (by unfold maxLen; omega)
def valS (l : FL) (k : Bs) : ByteArray := mk ((lkp l k).getD [])
set_option maxRecDepth 100000 in
theorem look_run {w : World} {b n : Nat} {l : FL} (h : w.ownsMap Tryd.prog 9 RC b n (toD l)) (s : ByteArray) (hs : s.size ≤ 140737488355328) :
    (Instr.lookup 59 (.map (some b)) (.string s) true).run Tryd.prog w = .ok (.tuple #[.agg #[.string (valS l (bs s))], .bool (ok l (bs s))]) w := by
  obtain ⟨v, ps, hrun, hv⟩ := h.look_ok law9 Tryd.underlying59 (zero63 w) (zd := .lit (.string [])) (zp := []) rfl (key9 s hs)
  rw [hrun, has_D]
  rw [at_D] at hv
  obtain ⟨s', rfl, e⟩ := RC_inv hv
  have e2 : (lkp l (bs s)).getD [] = bs s' := by injection e with e; injection e
  unfold valS
  rw [e2, mk_bs]
set_option maxRecDepth 100000 in
theorem store_run {w : World} {m : Nat} {l : FL} (h : w.ownsMap Tryd.prog 9 RC m l.length (toD l)) (hn : l.length < 140737488355328) (s t : ByteArray) (hs : s.size ≤ 140737488355328) :
    ∃ w', (Instr.mapUpdate 59 (.map (some m)) (.string s) (.agg #[.string t])).run Tryd.prog w = .ok () w' ∧ w'.ownsMap Tryd.prog 9 RC m (withL l (bs s) (bs t)).length (toD (withL l (bs s) (bs t))) ∧ w.mapTurned w' m := by
  obtain ⟨w', hrun, ho, ht⟩ := h.store law9 Tryd.underlying59 (by unfold maxLen; omega) (key9 s hs) (RC_at t)
  rw [put_D] at ho
  exact ⟨w', hrun, owns_norm ho, ht⟩
set_option maxRecDepth 100000 in
theorem drop_run {w : World} {m : Nat} {l : FL} (h : w.ownsMap Tryd.prog 9 RC m l.length (toD l)) (s : ByteArray) (hs : s.size ≤ 140737488355328) (ty : TypeId) :
    ∃ w', (Builtin.delete_ #[59, 9] ty #[.map (some m), .string s]).run Tryd.prog w = .ok (.tuple #[]) w' ∧ w'.ownsMap Tryd.prog 9 RC m (wout l (bs s)).length (toD (wout l (bs s))) ∧ w.mapTurned w' m := by
  obtain ⟨w', hrun, ho, ht⟩ := h.drop law9 Tryd.underlying59 (key9 s hs) ty
  rw [del_D] at ho
  exact ⟨w', hrun, owns_norm ho, ht⟩
end Go.Proofs.YtolihcgpnoacaaaDoor.Base
