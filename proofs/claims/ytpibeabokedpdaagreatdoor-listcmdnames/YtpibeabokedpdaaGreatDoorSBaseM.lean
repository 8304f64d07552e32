/- A space in memory: its block, its map of entries, its index of deadlines, its mark; what a call may touch. Deadlines of keys; what a key's new entry makes of them. What is asked of a space: there, seen, find, Due, Version, Counter, Over. -/
import Derived.Test.YtpibeabokedpdaaGreatDoorSpaceMathM
import Derived.Test.YtpibeabokedpdaaGreatDoorCallRowSM
import Derived.Test.YtpibeabokedpdaaGreatDoorMayM
section
namespace Go.Proofs.YtpibeabokedpdaaGreatDoor.SBase
open Go.RowKit Go.Maps
open Go.Proofs.YtpibeabokedpdaaGreatDoor.SpaceMath (wout withL lkp keys Ris toD)
open Go.Proofs.YtpibeabokedpdaaGreatDoor.ValueMath (Vl chk small)
open Go.Proofs.YtpibeabokedpdaaGreatDoor.Base (mk mk_list mk_size Gr hid_of SL NR)
open Go.Proofs.YtpibeabokedpdaaGreatDoor.Turn
open Go.Proofs.YtpibeabokedpdaaGreatDoor.RowB (Es)
open Go.Proofs.YtpibeabokedpdaaGreatDoor.Swap (row_later law9 key9 turned_block owns_cells)
open Go.Proofs.YtpibeabokedpdaaGreatDoor.Push (row_kd)
open Go.Proofs.YtpibeabokedpdaaGreatDoor.ThingS (RT)
open Go.Proofs.YtpibeabokedpdaaGreatDoor.IndexS (IX)
open Go.Proofs.YtpibeabokedpdaaGreatDoor.Vals
open Go.Proofs.YtpibeabokedpdaaGreatDoor.Check0 (Wel)
set_option linter.unusedVariables false
set_option linter.unusedSimpArgs false
abbrev Bs := List UInt8
abbrev KL (α : Type) := List (Bs × α)
abbrev ptr (b : Nat) : Value := .pointer (some ⟨b, 0, none⟩)
/- an index that is looked at from a later world, through another set -/
theorem ix_re {M M' : Nat → Prop} {b : Nat} {s : Es} {w w' : World} (h : IX M b w s) (hs : w.heap.size ≤ w'.heap.size) (hk : ∀ k, k < w.heap.size → M k → w'.heap[k]? = w.heap[k]?) (hm : ∀ k, k < w.heap.size → M k → M' k) (up : ∀ k, w'.heap.size ≤ k → M' k) : IX M' b w' s := by
  obtain ⟨l, ⟨⟨ev, mv, h⟩, hl⟩, hh, hp⟩ := h
  refine ⟨l, ⟨⟨ev, mv, ⟨(hk b (lt_of h.idx) h.bb).trans h.idx, hm b (lt_of h.idx) h.bb, row_later h.ent fun g hg => hk g (row_kd h.ent hg).2.1 (h.eb g hg), ?_, h.keys, h.wide, fun g hg => hm g (row_kd h.ent hg).2.1 (h.eb g hg), up⟩⟩, hl⟩, hh, hp⟩
  rcases h.map with q | ⟨bm, D, e, hbm, own, sp⟩
  · exact .inl q
  · refine .inr ⟨bm, D, e, hm bm own.lt hbm, ?_, sp⟩
    obtain ⟨es, c, q, r⟩ := own
    exact ⟨es, c, (hk bm (lt_of q) hbm).trans q, r⟩
theorem ix_lt {M : Nat → Prop} {b : Nat} {s : Es} {w : World} (h : IX M b w s) : b < w.heap.size ∧ M b := by
  obtain ⟨l, ⟨⟨ev, mv, h⟩, hl⟩, hh, hp⟩ := h
  exact ⟨lt_of h.idx, h.bb⟩
theorem ix_len {M : Nat → Prop} {b : Nat} {s : Es} {w : World} (h : IX M b w s) : s.length < 1099511627776 := by
  obtain ⟨l, hl, hh, hp⟩ := h
  rw [← hp.length_eq]
  exact hl.2
/- what is held in a map as it is -/
def RH : Value → Option (DataW Value × List MemPlace) := fun v => some (.held v, [])
theorem RH_inv {v : Value} {y : Value} {ps : List MemPlace} (h : RH v = some (.held y, ps)) : v = y := by
  unfold RH at h
  cases h
  rfl
/- values that stand while the blocks of X turn -/
def VS (X : Nat → Prop) (w : World) (v : Value) (x : Vl) : Prop := ∀ w', Ev X w w' → VA w' v x
theorem VS.va {X : Nat → Prop} {w : World} {v : Value} {x : Vl} (h : VS X w v x) : VA w v x := h w (Ev.refl _ _)
theorem VS.re {X X' : Nat → Prop} {w w' : World} {v : Value} {x : Vl} (h : VS X w v x) (e : Ev X w w') (hX : ∀ k, k < w.heap.size → X' k → X k) : VS X' w' v x := fun w'' e' =>
  h w'' ⟨e'.os.trans e.os, e'.tape.trans e.tape, e'.output.trans e.output, Nat.le_trans e.size e'.size, fun k hk hn => (e'.block k (Nat.lt_of_lt_of_le hk e.size) (fun q => hn (hX k hk q))).trans (e.block k hk hn)⟩
/-- a value in new memory stands -/
theorem vs_new {X : Nat → Prop} {B : Nat} {w : World} {v : Value} {x : Vl} (h : VN B w v x) (hX : ∀ k, X k → k < B) : VS X w v x := fun w' e => by
  obtain ⟨a, b, c, rfl, ha, hb, hc⟩ := h
  have st : ∀ k, k < w.heap.size → B ≤ k → w'.heap[k]? = w.heap[k]? := fun k hk hB => e.block k hk (fun q => by have := hX k q; omega)
  have lo : ∀ {ty sz n : Nat} {v : Value} {xs : List Value} {g : Nat}, w.ownsRow B ty sz v n xs → v.ownBlock = some g → B ≤ g ∧ g < w.heap.size := fun h hg => by
    have := row_kd h hg
    exact ⟨this.2.2, this.2.1⟩
  refine VN.va (B := B) ⟨a, b, c, rfl, ha.keep st, FRow.row_later hb fun g cs t fz hg hh _ => st g (lo hb hg).2 (lo hb hg).1, FRow.row_later hc fun g cs t fz hg hh _ => st g (lo hc hg).2 (lo hc hg).1⟩
/- entries -/
structure En where
  val : Vl
  due : Int
  ver : Nat
def vV (x : Vl) (a b c : Value) : Value := .agg #[.int .i64 x.kind, .string (mk x.text), a, b, c]
def eV (k : Bs) (x : Vl) (a b c : Value) (d : Int) (n : Nat) : Value := .agg #[.string (mk k), .int .i64 x.kind, .string (mk x.text), a, b, c, .int .i64 d, .int .u64 n]
abbrev zE : Value := .agg #[.string ⟨#[]⟩, .int .i64 0, .string ⟨#[]⟩, .slice none 0 0, .slice none 0 0, .slice none 0 0, .int .i64 0, .int .u64 0]
/-- a value that a space may hold -/
structure Gd (x : Vl) : Prop where
  chk : chk x = 0
  wel : Wel x
  sm : small x
structure EnAt (X : Nat → Prop) (w : World) (k : Bs) (v : Value) (e : En) : Prop where
  ex : ∃ a b c, v = eV k e.val a b c e.due e.ver ∧ VS X w (vV e.val a b c) e.val
  gd : Gd e.val
  due : 0 ≤ e.due ∧ e.due ≤ 9007199254740992
  ver : 0 < e.ver ∧ e.ver < 18446744073709551616
def HeldAt (X : Nat → Prop) (w : World) (k : Bs) (v : Value) : Option En → Prop
  | none => v = zE
  | some e => EnAt X w k v e
theorem EnAt.re {X X' : Nat → Prop} {w w' : World} {k : Bs} {v : Value} {e : En} (h : EnAt X w k v e) (ev : Ev X w w') (hX : ∀ k, k < w.heap.size → X' k → X k) : EnAt X' w' k v e := by
  obtain ⟨a, b, c, hv, hs⟩ := h.ex
  exact ⟨⟨a, b, c, hv, hs.re ev hX⟩, h.gd, h.due, h.ver⟩
theorem HeldAt.re {X X' : Nat → Prop} {w w' : World} {k : Bs} {v : Value} {o : Option En} (h : HeldAt X w k v o) (ev : Ev X w w') (hX : ∀ k, k < w.heap.size → X' k → X k) : HeldAt X' w' k v o := by
  cases o with
  | none => exact h
  | some e => exact EnAt.re h ev hX
/-- the slices of a value, in their shapes -/
theorem EnAt.shape {X : Nat → Prop} {w : World} {k : Bs} {v : Value} {e : En} (h : EnAt X w k v e) : ∃ a1 c1 a2 c2 a3 c3, v = eV k e.val (.slice a1 e.val.list.length c1) (.slice a2 e.val.fields.length c2) (.slice a3 e.val.ranked.length c3) e.due e.ver ∧ VS X w (vV e.val (.slice a1 e.val.list.length c1) (.slice a2 e.val.fields.length c2) (.slice a3 e.val.ranked.length c3)) e.val := by
  obtain ⟨a, b, c, rfl, hs⟩ := h.ex
  obtain ⟨a', b', c', q, ⟨a1, c1, h1, _⟩, ⟨a2, c2, h2, _⟩, ⟨a3, c3, h3, _⟩⟩ := hs.va
  unfold vV at q
  simp only [Value.agg.injEq, Array.mk.injEq, List.cons.injEq, and_true] at q
  obtain ⟨_, _, rfl, rfl, rfl⟩ := q
  subst h1 h2 h3
  exact ⟨a1, c1, a2, c2, a3, c3, rfl, hs⟩
/- effects -/
structure Ef where
  kind : Int
  key : Bs
  val : Vl
  due : Int
def efC (f : Ef) (a b c : Value) : List Value := [.int .i64 f.kind, .string (mk f.key), .int .i64 f.val.kind, .string (mk f.val.text), a, b, c, .int .i64 f.due]
def EfAt (X : Nat → Prop) (w : World) (cs : List Value) (f : Ef) : Prop := ∃ a b c, cs = efC f a b c ∧ VS X w (vV f.val a b c) f.val
theorem EfAt.re {X X' : Nat → Prop} {w w' : World} {cs : List Value} {f : Ef} (h : EfAt X w cs f) (ev : Ev X w w') (hX : ∀ k, k < w.heap.size → X' k → X k) : EfAt X' w' cs f := by
  obtain ⟨a, b, c, hv, hs⟩ := h
  exact ⟨a, b, c, hv, hs.re ev hX⟩
structure Mk where
  cnt : Nat
  ahead : KL (Option En)
  chs : List Ef
structure Sp where
  l : KL En
  cnt : Nat
  mrk : Option Mk
def Two {α β : Type} (R : α → β → Prop) : Option α → Option β → Prop
  | none, none => True
  | some a, some b => R a b
  | _, _ => False
theorem Two.mono {α β : Type} {R Q : α → β → Prop} (h : ∀ a b, R a b → Q a b) : ∀ {x : Option α} {y : Option β}, Two R x y → Two Q x y
  | none, none, _ => trivial
  | some a, some b, q => h a b q
/- the mark -/
structure MkAt (F FI X : Nat → Prop) (b bm bk bm2 : Nat) (cv : Value) (L2 : KL Value) (C2 : List (List Value)) (w : World) (m : Mk) : Prop where
  blk : w.heap[bk]? = some (.cells #[.int .u64 m.cnt, .map (some bm2), cv] 155 (0, 0))
  fk : F bk
  fm : F bm2
  nk : ¬ FI bk
  nm : ¬ FI bm2
  ne : bm2 ≠ bm
  neb : bk ≠ b
  nkm : bk ≠ bm
  nmb : bm2 ≠ b
  map : w.ownsMap Tryz.prog 9 RH bm2 L2.length (toD L2)
  ris : Ris L2
  ris2 : Ris m.ahead
  kl : ∀ p ∈ L2, p.1.length ≤ 281474976710656
  ent : ∀ k, Two (HeldAt X w k) (lkp L2 k) (lkp m.ahead k)
  row : w.ownsRow 0 97 8 cv m.chs.length C2.flatten
  len : C2.length = m.chs.length
  efs : ∀ i (h : i < C2.length) (h' : i < m.chs.length), EfAt X w C2[i] m.chs[i]
  cb : ∀ g, cv.ownBlock = some g → F g ∧ ¬ FI g ∧ g ≠ b ∧ g ≠ bm
  num : m.cnt < 18446744073709551616
def MarkAt (F FI X : Nat → Prop) (b bm : Nat) (w : World) (mv : Value) : Option Mk → Prop
  | none => mv = .pointer none
  | some m => ∃ bk bm2 cv L2 C2, mv = ptr bk ∧ MkAt F FI X b bm bk bm2 cv L2 C2 w m
def dues (l : KL En) : Es := l.filterMap fun p => if 0 < p.2.due then some (p.1, p.2.due) else none
structure SPa (F X FI : Nat → Prop) (b bm bi : Nat) (mv : Value) (L : KL Value) (s : Es) (w : World) (S : Sp) : Prop where
  blk : w.heap[b]? = some (.cells #[.map (some bm), ptr bi, .int .u64 S.cnt, mv] 76 (0, 0))
  fb : F b
  fm : F bm
  fi : ∀ k, FI k → F k
  nb : ¬ FI b
  nm : ¬ FI bm
  lo : ∀ k, F k → k < w.heap.size
  fx : ∀ k, F k → X k
  xl : ∀ k, X k → k < w.heap.size
  map : w.ownsMap Tryz.prog 9 RH bm L.length (toD L)
  ris : Ris L
  ris2 : Ris S.l
  kl : ∀ p ∈ L, p.1.length ≤ 281474976710656
  ent : ∀ k, Two (EnAt X w k) (lkp L k) (lkp S.l k)
  ix : IX (Gr FI w) bi w s
  du : s.Perm (dues S.l)
  mark : MarkAt F FI X b bm w mv S.mrk
  num : S.cnt < 18446744073709551616
def SP (F X : Nat → Prop) (b : Nat) (w : World) (S : Sp) : Prop := ∃ FI bm bi mv L s, SPa F X FI b bm bi mv L s w S
theorem MarkAt.re {F FI X F' FI' X' : Nat → Prop} {b bm : Nat} {w w' : World} {mv : Value} {o : Option Mk} (h : MarkAt F FI X b bm w mv o) (hk : ∀ k, k < w.heap.size → F k → ¬ FI k → k ≠ b → k ≠ bm → w'.heap[k]? = w.heap[k]?)
    (hF : ∀ k, k < w.heap.size → F k → F' k) (hFI : ∀ k, k < w.heap.size → FI' k → FI k) (ev : Ev X w w') (hX : ∀ k, k < w.heap.size → X' k → X k) : MarkAt F' FI' X' b bm w' mv o := by
  cases o with
  | none => exact h
  | some m =>
    obtain ⟨bk, bm2, cv, L2, C2, rfl, h⟩ := h
    have lk := lt_of h.blk
    have lm := h.map.lt
    refine ⟨bk, bm2, cv, L2, C2, rfl, ⟨(hk bk lk h.fk h.nk h.neb h.nkm).trans h.blk, hF bk lk h.fk, hF bm2 lm h.fm, fun q => h.nk (hFI bk lk q), fun q => h.nm (hFI bm2 lm q), h.ne, h.neb, h.nkm, h.nmb, ?_, h.ris, h.ris2, h.kl, fun k => (h.ent k).mono fun a b q => HeldAt.re q ev hX, ?_, h.len, fun i h1 h2 => (h.efs i h1 h2).re ev hX, fun g hg => ?_, h.num⟩⟩
    · obtain ⟨es, c, q, r⟩ := h.map
      exact ⟨es, c, (hk bm2 lm h.fm h.nm h.nmb h.ne).trans q, r⟩
    · refine FRow.row_later h.row fun g cs t fz hg hh _ => ?_
      have q := h.cb g hg
      exact hk g (lt_of hh) q.1 q.2.1 q.2.2.1 q.2.2.2
    · have q := h.cb g hg
      have l := (row_kd h.row hg).2.1
      exact ⟨hF g l q.1, fun e => q.2.1 (hFI g l e), q.2.2⟩
/-- a space that is looked at from a later world, in which nothing of its own has turned -/
theorem SPa.re {F X X' FI : Nat → Prop} {b bm bi : Nat} {mv : Value} {L : KL Value} {s : Es} {w w' : World} {S : Sp} (h : SPa F X FI b bm bi mv L s w S) (hk : ∀ k, F k → w'.heap[k]? = w.heap[k]?) (ev : Ev X w w') (hX : ∀ k, k < w.heap.size → X' k → X k) (fx : ∀ k, F k → X' k) (xl : ∀ k, X' k → k < w'.heap.size) : SPa F X' FI b bm bi mv L s w' S := by
  refine ⟨(hk b h.fb).trans h.blk, h.fb, h.fm, h.fi, h.nb, h.nm, fun k q => Nat.lt_of_lt_of_le (h.lo k q) ev.size, fx, xl, ?_, h.ris, h.ris2, h.kl, fun k => (h.ent k).mono fun a b q => EnAt.re q ev hX, ?_, h.du, h.mark.re (fun k _ q _ _ _ => hk k q) (fun k _ q => q) (fun k _ q => q) ev hX, h.num⟩
  · obtain ⟨es, c, q, r⟩ := h.map
    exact ⟨es, c, (hk bm h.fm).trans q, r⟩
  · refine ix_re h.ix ev.size (fun k hl q => ?_) (fun k hl q => ?_) (fun k q => .inr q)
    · rcases q with q | q
      · exact hk k (h.fi k q)
      · omega
    · rcases q with q | q
      · exact .inl q
      · omega
theorem SPa.below {F X FI : Nat → Prop} {b bm bi : Nat} {mv : Value} {L : KL Value} {s : Es} {w w' : World} {S : Sp} (h : SPa F X FI b bm bi mv L s w S) (hb : Below w.heap.size w w') : SPa F X FI b bm bi mv L s w' S :=
  h.re (fun k q => hb.block k (h.lo k q)) (Ev.of_below hb) (fun k _ q => q) h.fx (fun k q => Nat.lt_of_lt_of_le (h.xl k q) hb.size)
theorem SP.re {F X X' : Nat → Prop} {b : Nat} {w w' : World} {S : Sp} (h : SP F X b w S) (hk : ∀ k, F k → w'.heap[k]? = w.heap[k]?) (ev : Ev X w w') (hX : ∀ k, k < w.heap.size → X' k → X k) (fx : ∀ k, F k → X' k) (xl : ∀ k, X' k → k < w'.heap.size) : SP F X' b w' S := by
  obtain ⟨FI, bm, bi, mv, L, s, h⟩ := h
  exact ⟨FI, bm, bi, mv, L, s, h.re hk ev hX fx xl⟩
theorem SP.below {F X : Nat → Prop} {b : Nat} {w w' : World} {S : Sp} (h : SP F X b w S) (hb : Below w.heap.size w w') : SP F X b w' S := by
  obtain ⟨FI, bm, bi, mv, L, s, h⟩ := h
  exact ⟨FI, bm, bi, mv, L, s, h.below hb⟩
theorem SP.lo {F X : Nat → Prop} {b : Nat} {w : World} {S : Sp} (h : SP F X b w S) : ∀ k, F k → k < w.heap.size := by
  obtain ⟨FI, bm, bi, mv, L, s, h⟩ := h
  exact h.lo
theorem SP.xl {F X : Nat → Prop} {b : Nat} {w : World} {S : Sp} (h : SP F X b w S) : ∀ k, X k → k < w.heap.size := by
  obtain ⟨FI, bm, bi, mv, L, s, h⟩ := h
  exact h.xl
theorem SP.fx {F X : Nat → Prop} {b : Nat} {w : World} {S : Sp} (h : SP F X b w S) : ∀ k, F k → X k := by
  obtain ⟨FI, bm, bi, mv, L, s, h⟩ := h
  exact h.fx
/-- what a call leaves of a space: what it may touch may have grown by new blocks -/
def Dn (F X : Nat → Prop) (b : Nat) (w w' : World) (S : Sp) : Prop := ∃ F' : Nat → Prop, SP F' (fun k => X k ∨ F' k) b w' S ∧ Ev F w w' ∧ ∀ k, F' k → F k ∨ w.heap.size ≤ k
theorem Dn.of {F X : Nat → Prop} {b : Nat} {w w' : World} {S : Sp} (h : SP F X b w S) (hb : Below w.heap.size w w') : Dn F X b w w' S :=
  ⟨F, (h.below hb).re (fun _ _ => rfl) (Ev.refl _ _) (fun k _ q => q.elim id (h.fx k)) (fun k q => .inr q) (fun k q => Nat.lt_of_lt_of_le (q.elim (h.xl k) (h.lo k)) hb.size), Ev.of_below hb, fun k q => .inl q⟩
theorem Dn.trans {F X : Nat → Prop} {b : Nat} {w w1 w2 : World} {S1 S2 : Sp} {F1 : Nat → Prop} (e1 : Ev F w w1) (n1 : ∀ k, F1 k → F k ∨ w.heap.size ≤ k) (h2 : Dn F1 (fun k => X k ∨ F1 k) b w1 w2 S2) : Dn F X b w w2 S2 := by
  obtain ⟨F2, s2, e2, n2⟩ := h2
  refine ⟨F2, s2.re (fun _ _ => rfl) (Ev.refl _ _) (fun k _ q => q.elim (fun q => .inl (.inl q)) .inr) (fun k q => .inr q) (fun k q => q.elim (fun q => s2.xl k (.inl (.inl q))) (s2.lo k)), ?_, fun k q => ?_⟩
  · refine ⟨e2.os.trans e1.os, e2.tape.trans e1.tape, e2.output.trans e1.output, Nat.le_trans e1.size e2.size, fun k hk hn => (e2.block k (Nat.lt_of_lt_of_le hk e1.size) (fun q => ?_)).trans (e1.block k hk hn)⟩
    rcases n1 k q with q | q
    · exact hn q
    · omega
  · rcases n2 k q with q | q
    · exact n1 k q
    · exact .inr (Nat.le_trans e1.size q)
end Go.Proofs.YtpibeabokedpdaaGreatDoor.SBase
end
section
namespace Go.Proofs.YtpibeabokedpdaaGreatDoor.SMath
open Go.RowKit Go.Maps
open Go.Proofs.YtpibeabokedpdaaGreatDoor.SpaceMath
open Go.Proofs.YtpibeabokedpdaaGreatDoor.RowB (Es)
open Go.Proofs.YtpibeabokedpdaaGreatDoor.SetS (Given)
open Go.Proofs.YtpibeabokedpdaaGreatDoor.SBase (En KL dues Two)
set_option linter.unusedVariables false
set_option linter.unusedSimpArgs false
def upd (l : KL En) (k : Bs) : Option En → KL En
  | none => wout l k
  | some e => withL l k e
theorem lkp_wout_same {α : Type} (l : KL α) (k : Bs) : lkp (wout l k) k = none := lkp_none fun p hp => wout_none p hp
theorem ins_perm {α : Type} (x : Bs × α) : ∀ l : KL α, (insL x l).Perm (x :: l)
  | [] => List.Perm.refl _
  | y :: r => by
    unfold insL
    split
    · exact List.Perm.refl _
    · exact ((ins_perm x r).cons y).trans (List.Perm.swap _ _ _)
theorem with_perm {α : Type} (l : KL α) (k : Bs) (v : α) : (withL l k v).Perm ((k, v) :: wout l k) := ins_perm _ _
theorem dues_key {l : KL En} {x : Bs × Int} (h : x ∈ dues l) : ∃ e, (x.1, e) ∈ l ∧ x.2 = e.due ∧ 0 < e.due := by
  unfold dues at h
  obtain ⟨p, hp, he⟩ := List.mem_filterMap.1 h
  split at he
  · cases he; exact ⟨p.2, hp, rfl, by assumption⟩
  · cases he
theorem dues_wout (l : KL En) (k : Bs) : dues (wout l k) = (dues l).filter fun p => !(p.1 == k) := by
  induction l with
  | nil => rfl
  | cons a r ih =>
    unfold wout dues at *
    rw [List.filter_cons]
    by_cases hk : (!(a.1 == k)) = true
    · rw [if_pos hk, List.filterMap_cons, List.filterMap_cons]
      by_cases hd : 0 < a.2.due
      · simp only [hd, if_true]
        rw [List.filter_cons, if_pos hk, ih]
      · simp only [hd, if_false]
        exact ih
    · rw [if_neg hk, List.filterMap_cons]
      by_cases hd : 0 < a.2.due
      · simp only [hd, if_true]
        rw [List.filter_cons, if_neg hk, ih]
      · simp only [hd, if_false]
        exact ih
theorem dues_keys {l : KL En} (h : Ris l) : (dues l).Pairwise (fun a b => a.1 < b.1) := by
  induction l with
  | nil => exact List.Pairwise.nil
  | cons a r ih =>
    unfold dues
    rw [List.filterMap_cons]
    by_cases hd : 0 < a.2.due
    · simp only [hd, if_true]
      refine List.pairwise_cons.2 ⟨fun p hp => ?_, ih h.tail⟩
      obtain ⟨e, he, _, _⟩ := dues_key (l := r) hp
      exact h.head _ he
    · simp only [hd, if_false]
      exact ih h.tail
theorem dues_perm {l m : KL En} (h : l.Perm m) : (dues l).Perm (dues m) := h.filterMap _
theorem dues_with (l : KL En) (k : Bs) (e : En) : (dues (withL l k e)).Perm ((if 0 < e.due then [(k, e.due)] else []) ++ (dues l).filter fun p => !(p.1 == k)) := by
  refine (dues_perm (with_perm l k e)).trans ?_
  have : dues ((k, e) :: wout l k) = (if 0 < e.due then [(k, e.due)] else []) ++ dues (wout l k) := by
    unfold dues
    rw [List.filterMap_cons]
    by_cases hd : 0 < e.due
    · simp [hd]
    · simp [hd]
  rw [this, dues_wout]
/-- what is left of keys that are all unlike, once one is taken away -/
theorem left_of {s : Es} (hs : s.Pairwise (fun a b => a.1 < b.1)) {t s0 : Es} {x : Bs × Int} {k : Bs} (hx : x.1 = k) (ht : t.Perm s) (h : (s0 ++ [x]).Perm t) : s0.Perm (s.filter fun p => !(p.1 == k)) := by
  have h1 := h.trans ht
  have nd : (s.map (·.1)).Nodup := by
    unfold List.Nodup
    rw [List.pairwise_map]
    exact hs.imp fun q => lt_ne q
  have nd2 : ((s0 ++ [x]).map (·.1)).Nodup := (h1.map _).nodup_iff.2 nd
  have hno : ∀ y ∈ s0, y.1 ≠ k := fun y hy e => by
    rw [List.map_append, List.nodup_append] at nd2
    exact nd2.2.2 y.1 (List.mem_map.2 ⟨y, hy, rfl⟩) x.1 (by simp) (by rw [e, hx])
  have h2 := h1.filter (fun p => !(p.1 == k))
  rw [List.filter_append] at h2
  have e1 : s0.filter (fun p => !(p.1 == k)) = s0 := List.filter_eq_self.2 fun y hy => by simp [hno y hy]
  have e2 : [x].filter (fun p => !(p.1 == k)) = [] := by simp [hx]
  rw [e1, e2, List.append_nil] at h2
  exact h2
theorem none_left {s t : Es} {k : Bs} (ht : t.Perm s) (h : ∀ x ∈ t, x.1 ≠ k) : t.Perm (s.filter fun p => !(p.1 == k)) := by
  rw [List.filter_eq_self.2 fun y hy => by simp [h y (ht.mem_iff.2 hy)]]
  exact ht
theorem du_set {l : KL En} (hr : Ris l) {s s' : Es} (hs : s.Perm (dues l)) {k : Bs} {e : En} (hd : 0 < e.due) (h : Given s k e.due s') : s'.Perm (dues (withL l k e)) := by
  have hk := dues_keys hr
  refine List.Perm.trans ?_ (dues_with l k e).symm
  rw [if_pos hd]
  rcases h with ⟨x, s0, hx, h1, h2⟩ | ⟨hno, h2⟩
  · exact h2.trans ((List.perm_append_comm).trans ((left_of hk hx hs h1).append_left _))
  · exact h2.trans ((List.perm_append_comm).trans ((none_left hs hno).append_left _))
theorem du_zero {l : KL En} {s' : Es} {k : Bs} {e : En} (hd : ¬ 0 < e.due) (h : s'.Perm ((dues l).filter fun p => !(p.1 == k))) : s'.Perm (dues (withL l k e)) := by
  refine h.trans ((dues_with l k e).trans ?_).symm
  rw [if_neg hd]
  exact List.Perm.refl _
theorem dues_len (l : KL En) : (dues l).length ≤ l.length := List.length_filterMap_le _ _
/-- two rising lists that hold the same keys -/
theorem keys_ext {α β : Type} : ∀ {l : KL α} {m : KL β}, Ris l → Ris m → (∀ k, (lkp l k).isSome = (lkp m k).isSome) → keys l = keys m
  | [], [], _, _, _ => rfl
  | [], b :: m, _, _, h => by
    have := h b.1
    rw [lkp_cons, if_pos rfl] at this
    cases this
  | a :: l, [], _, _, h => by
    have := h a.1
    rw [lkp_cons, if_pos rfl] at this
    cases this
  | a :: l, b :: m, hl, hm, h => by
    have no : ∀ {γ : Type} {c : Bs × γ} {n : KL γ} {k : Bs}, Ris (c :: n) → k < c.1 → lkp (c :: n) k = none := fun hc hk => lkp_none fun p hp e => by
      rcases List.mem_cons.1 hp with rfl | hp
      · exact lt_ne hk e.symm
      · exact lt_ne (List.lt_trans hk (hc.head p hp)) e.symm
    have hab : a.1 = b.1 := by
      rcases lt_tot a.1 b.1 with q | q | q
      · have := h a.1
        rw [no hm q, lkp_cons, if_pos rfl] at this
        cases this
      · exact q
      · have := h b.1
        rw [no hl q, lkp_cons, if_pos rfl] at this
        cases this
    have ih := keys_ext hl.tail hm.tail fun k => by
      have := h k
      rw [lkp_cons, lkp_cons, ← hab] at this
      by_cases e : a.1 = k
      · rw [lkp_none fun p hp q => lt_ne (hl.head p hp) (e.trans q.symm), lkp_none fun p hp q => lt_ne (hm.head p hp) ((hab.symm.trans e).trans q.symm)]
        rfl
      · rw [if_neg e, if_neg e] at this
        exact this
    unfold keys at *
    rw [List.map_cons, List.map_cons, ih, hab]
theorem two_keys {α β : Type} {R : Bs → α → β → Prop} {l : KL α} {m : KL β} (hl : Ris l) (hm : Ris m) (h : ∀ k, Two (R k) (lkp l k) (lkp m k)) : keys l = keys m := keys_ext hl hm fun k => by
  have := h k
  cases h1 : lkp l k <;> cases h2 : lkp m k <;> rw [h1, h2] at this
  · rfl
  · exact absurd this (by simp [Two])
  · exact absurd this (by simp [Two])
  · rfl
theorem two_len {α β : Type} {R : Bs → α → β → Prop} {l : KL α} {m : KL β} (hl : Ris l) (hm : Ris m) (h : ∀ k, Two (R k) (lkp l k) (lkp m k)) : l.length = m.length := by
  have := congrArg List.length (two_keys hl hm h)
  simpa [keys] using this
end Go.Proofs.YtpibeabokedpdaaGreatDoor.SMath
end
section
namespace Go.Proofs.YtpibeabokedpdaaGreatDoor.SFind
open Go.RowKit Go.Maps
open Go.Proofs.YtpibeabokedpdaaGreatDoor.SpaceMath (wout withL lkp keys Ris toD at_D put_D del_D)
open Go.Proofs.YtpibeabokedpdaaGreatDoor.ValueMath (Vl chk small)
open Go.Proofs.YtpibeabokedpdaaGreatDoor.Base (mk mk_list mk_size Gr hid_of SL NR)
open Go.Proofs.YtpibeabokedpdaaGreatDoor.Turn
open Go.Proofs.YtpibeabokedpdaaGreatDoor.Swap (row_later law9 key9 turned_block owns_cells)
open Go.Proofs.YtpibeabokedpdaaGreatDoor.Vals
open Go.Proofs.YtpibeabokedpdaaGreatDoor.SBase
set_option linter.unusedVariables false
set_option linter.unusedSimpArgs false
theorem alb (w : World) (o : Obj) : Below w.heap.size w (w.alloc o) := (Below.refl _ w).alloc (Nat.le_refl _) o
theorem zeroE (w : World) : (zeroValue 94).run Tryz.prog w = .ok zE w := by kernel_rfl
set_option maxRecDepth 100000 in
theorem there_call (K T : ByteArray) (kd d : Int) (a1 a2 a3 : Option Addr) (n1 c1 n2 c2 n3 c3 n : Nat) (w : World) :
    Calls Tryz.prog 100 #[.agg #[.string K, .int .i64 kd, .string T, .slice a1 n1 c1, .slice a2 n2 c2, .slice a3 n3 c3, .int .i64 d, .int .u64 (n : Int)]] w fun e w' => e = .returned (.bool (decide (0 < n))) ∧ Below w.heap.size w w' := by
  have hd : decide ((0 : Int) < (n : Int)) = decide (0 < n) := by rw [decide_eq_decide]; omega
  go_enter Tryz.func100, Tryz.ntmps100
  go_wp2_with fail
  go_ret
  exact ⟨by first | rfl | (rw [hd]) | simp [hd], alb _ _⟩
def seenB (d : Int) (n : Nat) (now : Int) : Bool := decide (0 < n) && (decide (d = 0) || decide (now < d))
set_option maxRecDepth 100000 in
theorem seen_call (K T : ByteArray) (kd d now : Int) (a1 a2 a3 : Option Addr) (n1 c1 n2 c2 n3 c3 n : Nat) (w : World) :
    Calls Tryz.prog 157 #[.agg #[.string K, .int .i64 kd, .string T, .slice a1 n1 c1, .slice a2 n2 c2, .slice a3 n3 c3, .int .i64 d, .int .u64 (n : Int)], .int .i64 now] w fun e w' => e = .returned (.bool (seenB d n now)) ∧ Below w.heap.size w w' := by
  obtain ⟨W, hW⟩ : ∃ W, W = w.alloc (.cells #[.string K, .int .i64 kd, .string T, .slice a1 n1 c1, .slice a2 n2 c2, .slice a3 n3 c3, .int .i64 d, .int .u64 (n : Int)] 94) := ⟨_, rfl⟩
  have HT := hid_of (there_call K T kd d a1 a2 a3 n1 c1 n2 c2 n3 c3 n W)
  have HB := hid_of (show Below w.heap.size w W by rw [hW]; exact alb _ _)
  have HX := hid_of (show W.heap[w.heap.size]? = some (.cells #[.string K, .int .i64 kd, .string T, .slice a1 n1 c1, .slice a2 n2 c2, .slice a3 n3 c3, .int .i64 d, .int .u64 (n : Int)] 94 (0, 0)) by rw [hW]; exact heap_alloc_new w _)
  have HW := hid_of hW
  clear hW
  unfold seenB
  go_enter Tryz.func157, Tryz.ntmps157
  go_wp2_with fail
  rw [← HW.out]
  refine HT.out.mono ?_
  rintro e w1 ⟨rfl, hb⟩
  have c6 : w1.cell? ⟨w.heap.size, 6, none⟩ = some (.int .i64 d) := Lib.cell_of_heap ((hb.block _ (lt_of HX.out)).trans HX.out) 6
  have HB1 := hid_of hb
  clear hb
  by_cases hn : 0 < n
  · rw [decide_eq_true hn]
    by_cases h0 : d = 0
    · have e0 : (d == 0) = true := by simp [h0]
      go_wp2_with fail
      go_ret
      exact ⟨by simp [h0, hn], HB.out.trans (HB1.out.mono HB.out.size)⟩
    · have e0 : (d == 0) = false := by simp [h0]
      go_wp2_with fail
      go_ret
      exact ⟨by simp [h0, hn], HB.out.trans (HB1.out.mono HB.out.size)⟩
  · rw [decide_eq_false hn]
    go_wp2_with fail
    go_ret
    exact ⟨by simp [hn], HB.out.trans (HB1.out.mono HB.out.size)⟩
set_option maxRecDepth 100000 in
theorem deadline_call (d : Int) (w : World) : Calls Tryz.prog 51 #[.int .i64 d] w fun e w' => e = .returned (.bool (decide (0 ≤ d) && decide (d ≤ 9007199254740992))) ∧ w' = w := by
  by_cases h0 : 0 ≤ d
  · rw [decide_eq_true h0]
    go_enter Tryz.func51, Tryz.ntmps51
    go_wp2_with fail
    go_ret
    exact ⟨by simp, rfl⟩
  · rw [decide_eq_false h0]
    go_enter Tryz.func51, Tryz.ntmps51
    go_wp2_with fail
    go_ret
    exact ⟨by simp, rfl⟩
/-- what the map answers -/
theorem look {X : Nat → Prop} {bm n : Nat} {w W : World} {L : KL Value} {l : KL En} (own : W.ownsMap Tryz.prog 9 RH bm n (toD L)) (ent : ∀ k, Two (EnAt X w k) (lkp L k) (lkp l k)) (k : Bs) (hk : k.length ≤ 281474976710656) :
    ∃ v, (Instr.lookup 72 (.map (some bm)) (.string (mk k)) false).run Tryz.prog W = .ok v W ∧ HeldAt X w k v (lkp l k) := by
  obtain ⟨v, ps, hrun, hv⟩ := own.lookup law9 Tryz.underlying72 (zeroE W) (zd := .held zE) (zp := []) rfl (key9 k hk)
  refine ⟨v, hrun, ?_⟩
  rw [at_D] at hv
  have e := RH_inv hv
  have := ent k
  cases h1 : lkp L k with
  | none =>
    cases h2 : lkp l k with
    | none => rw [h1] at e; exact e
    | some y => rw [h1, h2] at this; exact absurd this (by simp [Two])
  | some x =>
    cases h2 : lkp l k with
    | none => rw [h1, h2] at this; exact absurd this (by simp [Two])
    | some y =>
      rw [h1, h2] at this
      rw [h1] at e
      subst e
      exact this
/-- what is held, in its shape -/
theorem HeldAt.shape {X : Nat → Prop} {w : World} {k : Bs} {v : Value} {o : Option En} (h : HeldAt X w k v o) : ∃ K T kd d a1 n1 c1 a2 n2 c2 a3 n3 c3 n, v = .agg #[.string K, .int .i64 kd, .string T, .slice a1 n1 c1, .slice a2 n2 c2, .slice a3 n3 c3, .int .i64 d, .int .u64 ((n : Nat) : Int)] ∧ d = (o.map (·.due)).getD 0 ∧ n = (o.map (·.ver)).getD 0 := by
  cases o with
  | none => exact ⟨_, _, _, _, _, _, _, _, _, _, _, _, _, 0, h, rfl, rfl⟩
  | some e =>
    obtain ⟨a1, c1, a2, c2, a3, c3, rfl, _⟩ := EnAt.shape h
    exact ⟨_, _, _, _, _, _, _, _, _, _, _, _, _, e.ver, rfl, rfl, rfl⟩
set_option maxHeartbeats 1000000 in
set_option maxRecDepth 100000 in
theorem find_call {F X : Nat → Prop} {b : Nat} {w : World} {S : Sp} (h : SP F X b w S) (k : Bs) (hk : k.length ≤ 281474976710656) :
    Calls Tryz.prog 156 #[ptr b, .string (mk k)] w fun e w' => ∃ v, e = .returned v ∧ HeldAt X w k v (lkp S.l k) ∧ Below w.heap.size w w' := by
  obtain ⟨FI, bm, bi, mv, L, s, h⟩ := h
  have hbl := lt_of h.blk
  obtain ⟨v, hl, hv⟩ := look (W := w.alloc (.cells #[.string ⟨#[]⟩, .int .i64 0, .string ⟨#[]⟩, .slice none 0 0, .slice none 0 0, .slice none 0 0, .int .i64 0, .int .u64 0] 94)) (h.map.alloc _) h.ent k hk
  have HV := hid_of hv
  obtain ⟨K, T, kd, d, a1, n1, c1, a2, n2, c2, a3, n3, c3, n, rfl, -, -⟩ := HeldAt.shape hv
  have c0 : w.cell? ⟨b, 0, none⟩ = some (.map (some bm)) := Lib.cell_of_heap h.blk 0
  clear hv h
  go_enter Tryz.func156, Tryz.ntmps156
  go_wp2_with fail
  exact bodyPost_ret (v := .agg #[.string K, .int .i64 kd, .string T, .slice a1 n1 c1, .slice a2 n2 c2, .slice a3 n3 c3, .int .i64 d, .int .u64 (n : Int)]) (by simp [results, Tryz.results156, go_sem]) rfl ⟨_, rfl, HV.out, alb _ _⟩
end Go.Proofs.YtpibeabokedpdaaGreatDoor.SFind
end
