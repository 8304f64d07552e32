/- The network in memory: its own block, the row of connections, each connection's block, the rows of its bytes; what a call may touch. -/
import Derived.Test.YthmfgnagpifnlaaProg
import Derived.Test.YthmfgnagpifnlaaPipeMath
import Derived.WalkKit
import Derived.WalkSmall
import Derived.WalkLawsBesides
import Derived.WalkSpells
import Derived.BigQuiet
import Derived.Below
import Derived.Lib.AppendStr
import Derived.Lib.SliceRun
import Derived.Laws.OwnMore
import Derived.Deep.LoopGhost
import Derived.Deep.RegionWith
import Derived.Deep.AppendSrc
import Derived.Laws.IdiomStrings
import Derived.Laws.BytesArg
namespace Go.Proofs.Ythmfgnagpifnlaa.Base
open Go.RowKit
open Go.Proofs.Ythmfgnagpifnlaa.PipeMath
set_option linter.unusedVariables false

def bs (s : ByteArray) : List UInt8 := s.data.toList
theorem len_bs (s : ByteArray) : (bs s).length = s.size := by unfold bs; simp
def mk (l : List UInt8) : ByteArray := ⟨l.toArray⟩
theorem bs_mk (l : List UInt8) : bs (mk l) = l := rfl
theorem mk_bs (s : ByteArray) : mk (bs s) = s := by cases s; simp [mk, bs]
theorem mk_size (l : List UInt8) : (mk l).size = l.length := by rw [← len_bs, bs_mk]
theorem of_bs {a b : ByteArray} (h : bs a = bs b) : a = b := by rw [← mk_bs a, ← mk_bs b, h]
theorem hid_of {p : Prop} (h : p) : Hid p := h
theorem lt_of {w : World} {b : Nat} {o : Obj} (h : w.heap[b]? = some o) : b < w.heap.size := (Array.getElem?_eq_some_iff.1 h).1
theorem set_at {w : World} {b i : Nat} {cs : Array Value} {ty : TypeId} {fz : Nat × Nat} (h : w.heap[b]? = some (.cells cs ty fz)) (v : Value) : (w.setCell ⟨b, i, none⟩ v).heap[b]? = some (.cells (cs.setIfInBounds i v) ty fz) := by
  have e2 : (w.setCell ⟨b, i, none⟩ v).heap[b]? = (w.heap[b]?).map (fun | .cells c elem frozen => .cells (if (none : Option Nat).isSome then c else c.setIfInBounds i v) elem frozen | o => o) := by
    show (w.heap.modify b _)[b]? = _
    rw [Array.getElem?_modify, if_pos rfl]
    rfl
  rw [e2, h]; rfl
theorem set_ne {w : World} {b i k : Nat} (h : k ≠ b) (v : Value) : (w.setCell ⟨b, i, none⟩ v).heap[k]? = w.heap[k]? := Below.heap_setCell _ _ _ _ h
theorem size_set {w : World} (p : Addr) (v : Value) : (w.setCell p v).heap.size = w.heap.size := by simp [World.setCell]

/- what a call may touch -/
structure Fr (F : Nat → Prop) (w w' : World) : Prop where
  os : w'.os = w.os
  tape : w'.tape = w.tape
  output : w'.output = w.output
  size : w.heap.size ≤ w'.heap.size
  block : ∀ k, k < w.heap.size → ¬ F k → w'.heap[k]? = w.heap[k]?
def Gr (F : Nat → Prop) (w : World) : Nat → Prop := fun k => F k ∨ w.heap.size ≤ k
theorem Fr.refl (F : Nat → Prop) (w : World) : Fr F w w := ⟨rfl, rfl, rfl, Nat.le_refl _, fun _ _ _ => rfl⟩
theorem Fr.trans {F : Nat → Prop} {a b c : World} (h : Fr F a b) (k : Fr (Gr F a) b c) : Fr F a c :=
  ⟨k.os.trans h.os, k.tape.trans h.tape, k.output.trans h.output, Nat.le_trans h.size k.size, fun i hi hn => (k.block i (Nat.lt_of_lt_of_le hi h.size) (fun e => by
    rcases e with e | e
    · exact hn e
    · omega)).trans (h.block i hi hn)⟩
theorem Fr.mono {F G : Nat → Prop} {a b : World} (h : Fr F a b) (hG : ∀ k, k < a.heap.size → F k → G k) : Fr G a b := ⟨h.os, h.tape, h.output, h.size, fun k hk hn => h.block k hk (fun e => hn (hG k hk e))⟩
theorem Fr.of_below {F : Nat → Prop} {a b : World} (h : Below a.heap.size a b) : Fr F a b := ⟨h.os, h.tape, h.output, h.size, fun k hk _ => h.block k hk⟩
theorem Fr.below {F : Nat → Prop} {a b : World} (h : Fr F a b) {base : Nat} (hb : base ≤ a.heap.size) (hF : ∀ k, F k → base ≤ k) : Below base a b := ⟨h.os, h.tape, h.output, h.size, fun k hk => h.block k (by omega) (fun e => by have := hF k e; omega)⟩
theorem Fr.alloc {F : Nat → Prop} {a b : World} (h : Fr F a b) (o : Obj) : Fr F a (b.alloc o) := h.trans (Fr.of_below ((Below.refl _ b).alloc (Nat.le_refl _) o))
theorem Fr.drew {F : Nat → Prop} {a b : World} (h : Fr F a b) : Fr F a b.drew := ⟨h.os, h.tape, h.output, h.size, h.block⟩
theorem Fr.drewN {F : Nat → Prop} {a b : World} (h : Fr F a b) (n : Nat) : Fr F a (b.drewN n) := ⟨h.os, h.tape, h.output, h.size, h.block⟩
theorem Fr.set {F : Nat → Prop} {w : World} {f i : Nat} (hF : F f) (v : Value) : Fr F w (w.setCell ⟨f, i, none⟩ v) := by
  have e0 : Below 0 w (w.setCell ⟨f, i, none⟩ v) := (Below.refl 0 w).setCell (Nat.zero_le _) v
  exact ⟨e0.os, e0.tape, e0.output, e0.size, fun k hk hn => set_ne (fun e => hn (by rw [e]; exact hF)) v⟩
theorem Fr.grown {F : Nat → Prop} {w w' : World} {g : Option Nat} (h : w.grownBy w' g) (hF : ∀ k, g = some k → F k) : Fr F w w' := ⟨h.os, h.tape, h.output, h.size, fun k hk hn => h.block k hk (fun e => hn (hF k e.symm))⟩

abbrev ptr (f : Nat) : Value := .pointer (some ⟨f, 0, none⟩)
def tx (t : Bs) : List Value := Lib.strCells (mk t)
structure Lay where
  cv : Value
  pos : Nat → Nat
  tv : Nat → Bool → Value
def cnCells (iv ov : Value) (k : Cn) : Array Value := #[iv, .int .i64 k.rd, .bool k.ended, ov, .int .i64 k.tk, .bool k.closed, .bool k.cut]
structure CnAt (F : Nat → Prop) (w : World) (f : Nat) (iv ov : Value) (k : Cn) : Prop where
  blk : w.heap[f]? = some (.cells (cnCells iv ov k) 82 (0, 0))
  inr : w.ownsRow 0 5 1 iv k.sent.length (tx k.sent)
  outr : w.ownsRow 0 5 1 ov k.wrote.length (tx k.wrote)
  own : F f
  iown : ∀ g, iv.ownBlock = some g → F g
  oown : ∀ g, ov.ownBlock = some g → F g
structure NK (F : Nat → Prop) (b : Nat) (y : Lay) (n : Nt) (w : World) : Prop where
  net : w.heap[b]? = some (.cells #[.int .i64 n.win, y.cv, .int .i64 n.acc] 55 (0, 0))
  row : w.ownsRow 0 73 1 y.cv n.cs.length ((List.range n.cs.length).map fun i => ptr (y.pos i))
  own : F b
  rown : ∀ g, y.cv.ownBlock = some g → F g
  fl : ∀ i k, n.cs[i]? = some k → CnAt F w (y.pos i) (y.tv i false) (y.tv i true) k
  inj : ∀ i j, i < n.cs.length → j < n.cs.length → y.pos i = y.pos j → i = j
  apart : ∀ i p j q g, i < n.cs.length → j < n.cs.length → (i, p) ≠ (j, q) → (y.tv i p).ownBlock = some g → (y.tv j q).ownBlock ≠ some g
  ok : Ok n
def Has (F : Nat → Prop) (b : Nat) (n : Nt) (w : World) : Prop := ∃ y, NK F b y n w

theorem row_kd {w : World} {base e sz n g : Nat} {v : Value} {xs : List Value} (h : w.ownsRow base e sz v n xs) (hg : v.ownBlock = some g) : ∃ cur, w.heap[g]? = some (.cells cur e (0, 0)) := by
  rcases h.2 with ⟨rfl, _⟩ | ⟨g', cap, cur, rfl, hb, hh, _⟩
  · simp [Value.ownBlock] at hg
  · obtain rfl : g' = g := by simpa [Value.ownBlock] using hg
    exact ⟨cur, hh⟩
theorem row_later {w w' : World} {base e sz n : Nat} {v : Value} {xs : List Value} (h : w.ownsRow base e sz v n xs) (hk : ∀ g, v.ownBlock = some g → w'.heap[g]? = w.heap[g]?) : w'.ownsRow base e sz v n xs := by
  refine ⟨h.1, ?_⟩
  rcases h.2 with hn | ⟨g, cap, cur, rfl, hb, hg, rest⟩
  · exact Or.inl hn
  · exact Or.inr ⟨g, cap, cur, rfl, hb, (hk g rfl).trans hg, rest⟩
theorem row_shape {w : World} {base e sz n : Nat} {v : Value} {xs : List Value} (h : w.ownsRow base e sz v n xs) : ∃ a c, v = .slice a n c := by
  rcases h.2 with ⟨rfl, rfl⟩ | ⟨g, cap, cur, rfl, _⟩
  · exact ⟨_, _, rfl⟩
  · exact ⟨_, _, rfl⟩
/- two blocks of unlike kinds -/
theorem kinds {w : World} {a b : Nat} {c1 c2 : Array Value} {s t : TypeId} {f1 f2 : Nat × Nat} (h1 : w.heap[a]? = some (.cells c1 s f1)) (h2 : w.heap[b]? = some (.cells c2 t f2)) (hne : s ≠ t) : a ≠ b := by
  rintro rfl
  rw [h1] at h2
  injection h2 with h2
  injection h2 with _ h2
  exact hne h2
theorem cn_later {F G : Nat → Prop} {w w' : World} {f : Nat} {iv ov : Value} {k : Cn} (h : CnAt F w f iv ov k) (hb : w'.heap[f]? = w.heap[f]?) (hi : ∀ g, iv.ownBlock = some g → w'.heap[g]? = w.heap[g]?) (ho : ∀ g, ov.ownBlock = some g → w'.heap[g]? = w.heap[g]?) (hG : ∀ k, F k → G k) : CnAt G w' f iv ov k :=
  ⟨hb.trans h.blk, row_later h.inr hi, row_later h.outr ho, hG _ h.own, fun g e => hG _ (h.iown g e), fun g e => hG _ (h.oown g e)⟩
theorem NK.mono {F G : Nat → Prop} {b : Nat} {y : Lay} {n : Nt} {w : World} (h : NK F b y n w) (hG : ∀ k, F k → G k) : NK G b y n w :=
  ⟨h.net, h.row, hG _ h.own, fun g e => hG _ (h.rown g e), fun i k hk => cn_later (h.fl i k hk) rfl (fun _ _ => rfl) (fun _ _ => rfl) hG, h.inj, h.apart, h.ok⟩
/- nothing of the network has turned -/
theorem NK.keep {F G : Nat → Prop} {b : Nat} {y : Lay} {n : Nt} {w w' : World} (h : NK F b y n w) (he : Fr G w w') (hd : ∀ k, F k → ¬ G k) : NK F b y n w' := by
  have hk : ∀ k, k < w.heap.size → F k → w'.heap[k]? = w.heap[k]? := fun k hk hf => he.block k hk (hd k hf)
  have hr : ∀ {e sz m : Nat} {v : Value} {xs : List Value}, w.ownsRow 0 e sz v m xs → ∀ g, v.ownBlock = some g → F g → w'.heap[g]? = w.heap[g]? := fun hrow g hg hf => by
    obtain ⟨cur, hc⟩ := row_kd hrow hg
    exact hk g (lt_of hc) hf
  exact ⟨(hk b (lt_of h.net) h.own).trans h.net, row_later h.row fun g e => hr h.row g e (h.rown g e), h.own, h.rown, fun i k hi => by
    have q := h.fl i k hi
    exact cn_later q (hk _ (lt_of q.blk) q.own) (fun g e => hr q.inr g e (q.iown g e)) (fun g e => hr q.outr g e (q.oown g e)) fun _ h => h, h.inj, h.apart, h.ok⟩
theorem NK.below {F : Nat → Prop} {b : Nat} {y : Lay} {n : Nt} {w w' : World} (h : NK F b y n w) (he : Below w.heap.size w w') : NK F b y n w' := h.keep (G := fun _ => False) (Fr.of_below he) fun _ _ e => e
theorem NK.alloc {F : Nat → Prop} {b : Nat} {y : Lay} {n : Nt} {w : World} (h : NK F b y n w) (o : Obj) : NK F b y n (w.alloc o) := h.below ((Below.refl _ w).alloc (Nat.le_refl _) o)
theorem NK.drewN {F : Nat → Prop} {b : Nat} {y : Lay} {n : Nt} {w : World} (h : NK F b y n w) (m : Nat) : NK F b y n (w.drewN m) := h.below ⟨rfl, rfl, rfl, Nat.le_refl _, fun _ _ => rfl⟩
theorem NK.cell {F : Nat → Prop} {b : Nat} {y : Lay} {n : Nt} {w : World} (h : NK F b y n w) (i : Nat) : w.cell? ⟨b, i, none⟩ = (#[.int .i64 n.win, y.cv, .int .i64 n.acc] : Array Value)[i]? := Lib.cell_of_heap h.net i
theorem NK.frozen {F : Nat → Prop} {b : Nat} {y : Lay} {n : Nt} {w : World} (h : NK F b y n w) (i : Nat) : w.frozen? ⟨b, i, none⟩ = false := Lib.frozen_of_heap h.net i
/- own blocks lie below the heap's size -/
theorem NK.low {F : Nat → Prop} {b : Nat} {y : Lay} {n : Nt} {w : World} (h : NK F b y n w) : NK (fun k => F k ∧ k < w.heap.size) b y n w := by
  have hr : ∀ {e sz m : Nat} {v : Value} {xs : List Value}, w.ownsRow 0 e sz v m xs → ∀ g, v.ownBlock = some g → g < w.heap.size := fun hrow g hg => by
    obtain ⟨cur, hc⟩ := row_kd hrow hg
    exact lt_of hc
  refine ⟨h.net, h.row, ⟨h.own, lt_of h.net⟩, fun g e => ⟨h.rown g e, hr h.row g e⟩, fun i k hk => ?_, h.inj, h.apart, h.ok⟩
  have q := h.fl i k hk
  exact ⟨q.blk, q.inr, q.outr, ⟨q.own, lt_of q.blk⟩, fun g e => ⟨q.iown g e, hr q.inr g e⟩, fun g e => ⟨q.oown g e, hr q.outr g e⟩⟩
def Lay.turn (y : Lay) (i : Nat) (iv ov : Value) : Lay := { y with tv := fun j p => if j = i then (if p then ov else iv) else y.tv j p }
/- one connection has turned -/
theorem NK.turn {F : Nat → Prop} {b : Nat} {y : Lay} {n : Nt} {w w' : World} (h : NK F b y n w) {i : Nat} {k : Cn} (hk : n.cs[i]? = some k) {k' : Cn} {iv ov : Value}
    (hf : ∀ j, j < w.heap.size → j ≠ y.pos i → (y.tv i false).ownBlock ≠ some j → (y.tv i true).ownBlock ≠ some j → w'.heap[j]? = w.heap[j]?) (hs : w.heap.size ≤ w'.heap.size)
    (blk : w'.heap[y.pos i]? = some (.cells (cnCells iv ov k') 82 (0, 0))) (inr : w'.ownsRow 0 5 1 iv k'.sent.length (tx k'.sent)) (outr : w'.ownsRow 0 5 1 ov k'.wrote.length (tx k'.wrote))
    (hi : ∀ g, iv.ownBlock = some g → (y.tv i false).ownBlock = some g ∨ w.heap.size ≤ g) (ho : ∀ g, ov.ownBlock = some g → (y.tv i true).ownBlock = some g ∨ w.heap.size ≤ g) (hio : ∀ g, iv.ownBlock = some g → ov.ownBlock ≠ some g)
    (ok : Ok { n with cs := n.cs.set i k' }) : NK (Gr F w) b (y.turn i iv ov) { n with cs := n.cs.set i k' } w' := by
  have hil : i < n.cs.length := (List.getElem?_eq_some_iff.1 hk).1
  have q := h.fl i k hk
  have hl : (n.cs.set i k').length = n.cs.length := List.length_set
  have up : ∀ k, F k → Gr F w k := fun k e => Or.inl e
  have hltr : ∀ {e sz m : Nat} {v : Value} {xs : List Value}, w.ownsRow 0 e sz v m xs → ∀ g, v.ownBlock = some g → g < w.heap.size := fun hrow g hg => by
    obtain ⟨cur, hc⟩ := row_kd hrow hg
    exact lt_of hc
  /- a row of another kind stands -/
  have hrw : ∀ {e sz m : Nat} {v : Value} {xs : List Value}, w.ownsRow 0 e sz v m xs → e ≠ 82 → (∀ g, v.ownBlock = some g → (y.tv i false).ownBlock ≠ some g ∧ (y.tv i true).ownBlock ≠ some g) → ∀ g, v.ownBlock = some g → w'.heap[g]? = w.heap[g]? := fun hrow he hne g hg => by
    obtain ⟨cur, hc⟩ := row_kd hrow hg
    exact hf g (lt_of hc) (kinds hc q.blk he) (hne g hg).1 (hne g hg).2
  have hblk : ∀ {j : Nat} {c : Array Value} {t : TypeId} {f : Nat × Nat}, w.heap[j]? = some (.cells c t f) → j ≠ y.pos i → t ≠ 5 → w'.heap[j]? = w.heap[j]? := fun {j c t f} hj hne ht => by
    refine hf j (lt_of hj) hne (fun e => ?_) (fun e => ?_)
    · obtain ⟨cur, hc⟩ := row_kd q.inr e
      exact kinds hj hc ht rfl
    · obtain ⟨cur, hc⟩ := row_kd q.outr e
      exact kinds hj hc ht rfl
  refine ⟨(hblk h.net (kinds h.net q.blk (by decide)) (by decide)).trans h.net, ?_, up _ h.own, fun g e => up _ (h.rown g e), fun j kj hj => ?_, fun a c ha hc => ?_, fun a p c r g ha hc hne hg => ?_, ok⟩
  · show w'.ownsRow 0 73 1 y.cv (n.cs.set i k').length ((List.range (n.cs.set i k').length).map fun i => ptr (y.pos i))
    rw [hl]
    refine row_later h.row fun g hg => ?_
    obtain ⟨cur, hc⟩ := row_kd h.row hg
    exact hblk hc (kinds hc q.blk (by decide)) (by decide)
  · show CnAt (Gr F w) w' (y.pos j) (if j = i then _ else _) (if j = i then _ else _) kj
    by_cases e : j = i
    · subst e
      rw [if_pos rfl, if_pos rfl]
      rw [show ({ n with cs := n.cs.set j k' } : Nt).cs = n.cs.set j k' from rfl, List.getElem?_set_self hil] at hj
      injection hj with hj
      subst hj
      refine ⟨blk, inr, outr, up _ q.own, fun g e => ?_, fun g e => ?_⟩
      · rcases hi g e with e1 | e1
        · exact up _ (q.iown g e1)
        · exact Or.inr e1
      · rcases ho g e with e1 | e1
        · exact up _ (q.oown g e1)
        · exact Or.inr e1
    · rw [if_neg e, if_neg e]
      rw [show ({ n with cs := n.cs.set i k' } : Nt).cs = n.cs.set i k' from rfl, List.getElem?_set_ne (fun x => e x.symm)] at hj
      have qj := h.fl j kj hj
      have hjl : j < n.cs.length := (List.getElem?_eq_some_iff.1 hj).1
      exact cn_later qj (hblk qj.blk (fun x => e (h.inj _ _ hjl hil x)) (by decide))
        (hrw qj.inr (by decide) fun g hg => ⟨h.apart j false i false g hjl hil (fun x => e (by injection x)) hg, h.apart j false i true g hjl hil (fun x => e (by injection x)) hg⟩)
        (hrw qj.outr (by decide) fun g hg => ⟨h.apart j true i false g hjl hil (fun x => e (by injection x)) hg, h.apart j true i true g hjl hil (fun x => e (by injection x)) hg⟩) up
  · have ha' : a < n.cs.length := by rw [← hl]; exact ha
    have hc' : c < n.cs.length := by rw [← hl]; exact hc
    exact h.inj a c ha' hc'
  · have ha' : a < n.cs.length := by rw [← hl]; exact ha
    have hc' : c < n.cs.length := by rw [← hl]; exact hc
    have old : ∀ j p g, j < n.cs.length → (y.tv j p).ownBlock = some g → g < w.heap.size := fun j p g hj hg => by
      have qj := h.fl j _ (List.getElem?_eq_getElem hj)
      cases p
      · exact hltr qj.inr g hg
      · exact hltr qj.outr g hg
    have now : ∀ p g, (if p then ov else iv : Value).ownBlock = some g → (y.tv i p).ownBlock = some g ∨ w.heap.size ≤ g := fun p g hg => by
      cases p
      · exact hi g hg
      · exact ho g hg
    have hg' : (if a = i then (if p then ov else iv) else y.tv a p : Value).ownBlock = some g := hg
    show (if c = i then (if r then ov else iv) else y.tv c r : Value).ownBlock ≠ some g
    by_cases ea : a = i
    · rw [if_pos ea] at hg'
      by_cases ec : c = i
      · rw [if_pos ec]
        cases p <;> cases r
        · exact absurd (by rw [ea, ec]) hne
        · exact hio g hg'
        · exact fun e => hio g e hg'
        · exact absurd (by rw [ea, ec]) hne
      · rw [if_neg ec]
        rcases now p g hg' with e1 | e1
        · exact h.apart i p c r g hil hc' (fun x => ec (by injection x with x _; exact x.symm)) e1
        · exact fun e => by have := old c r g hc' e; omega
    · rw [if_neg ea] at hg'
      by_cases ec : c = i
      · rw [if_pos ec]
        intro e
        rcases now r g e with e1 | e1
        · exact h.apart a p i r g ha' hil (fun x => ea (by injection x)) hg' e1
        · have := old a p g ha' hg'; omega
      · rw [if_neg ec]
        exact h.apart a p c r g ha' hc' hne hg'
/- the network's own block alone has turned -/
theorem NK.accs {F : Nat → Prop} {b : Nat} {y : Lay} {n : Nt} {w : World} (h : NK F b y n w) (a : Nat) (ok : Ok { n with acc := a }) : NK F b y { n with acc := a } (w.setCell ⟨b, 2, none⟩ (.int .i64 a)) := by
  have hk : ∀ {j : Nat} {c : Array Value} {t : TypeId} {f : Nat × Nat}, w.heap[j]? = some (.cells c t f) → t ≠ 55 → (w.setCell ⟨b, 2, none⟩ (.int .i64 a)).heap[j]? = w.heap[j]? := fun hj ht => set_ne (kinds hj h.net ht) _
  have hr : ∀ {e sz m : Nat} {v : Value} {xs : List Value}, w.ownsRow 0 e sz v m xs → e ≠ 55 → ∀ g, v.ownBlock = some g → (w.setCell ⟨b, 2, none⟩ (.int .i64 a)).heap[g]? = w.heap[g]? := fun hrow he g hg => by
    obtain ⟨cur, hc⟩ := row_kd hrow hg
    exact hk hc he
  refine ⟨set_at h.net _, row_later h.row (hr h.row (by decide)), h.own, h.rown, fun i k hi => ?_, h.inj, h.apart, ok⟩
  have q := h.fl i k hi
  exact cn_later q (hk q.blk (by decide)) (hr q.inr (by decide)) (hr q.outr (by decide)) fun _ h => h
end Go.Proofs.Ythmfgnagpifnlaa.Base
