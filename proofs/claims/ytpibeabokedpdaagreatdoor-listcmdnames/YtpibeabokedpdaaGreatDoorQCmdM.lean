/- Commands on strings: what their small calls answer. Commands on strings: putting; numbers added to. The document's copy of a value. The document's fields, Ahead, Empty. -/
import Derived.Test.YtpibeabokedpdaaGreatDoorDecM
import Derived.Test.YtpibeabokedpdaaGreatDoorBIncrM
import Derived.Deep.RegionHeld3
import Derived.Test.YtpibeabokedpdaaGreatDoorSSetM
import Derived.Test.YtpibeabokedpdaaGreatDoorCopyM
import Derived.Test.YtpibeabokedpdaaGreatDoorMayM
import Derived.Test.YtpibeabokedpdaaGreatDoorEqualM
section
namespace Go.Proofs.YtpibeabokedpdaaGreatDoor.QCmd
open Go.RowKit Go.Maps
open Go.Proofs.YtpibeabokedpdaaGreatDoor.SpaceMath (wout withL lkp keys Ris toD)
open Go.Proofs.YtpibeabokedpdaaGreatDoor.ValueMath (Vl chk small)
open Go.Proofs.YtpibeabokedpdaaGreatDoor.Base (mk mk_list mk_size Gr hid_of SL)
open Go.Proofs.YtpibeabokedpdaaGreatDoor.Turn
open Go.Proofs.YtpibeabokedpdaaGreatDoor.Vals
open Go.Proofs.YtpibeabokedpdaaGreatDoor.Check0 (Wel)
open Go.Proofs.YtpibeabokedpdaaGreatDoor.SBase
open Go.Proofs.YtpibeabokedpdaaGreatDoor.SFind
open Go.Proofs.YtpibeabokedpdaaGreatDoor.SSet (box8)
open Go.Proofs.YtpibeabokedpdaaGreatDoor.SPut (vO)
open Go.Proofs.YtpibeabokedpdaaGreatDoor.QBase
set_option linter.unusedVariables false
set_option linter.unusedSimpArgs false
abbrev wrongB : ByteArray := ⟨#[87, 82, 79, 78, 71, 84, 89, 80, 69, 32, 116, 104, 101, 32, 107, 101, 121, 32, 104, 111, 108, 100, 115, 32, 97, 110, 111, 116, 104, 101, 114, 32, 107, 105, 110, 100, 32, 111, 102, 32, 118, 97, 108, 117, 101]⟩
abbrev numB : ByteArray := ⟨#[69, 82, 82, 32, 97, 32, 110, 117, 109, 98, 101, 114, 32, 105, 115, 32, 119, 97, 110, 116, 101, 100]⟩
abbrev overB : ByteArray := ⟨#[69, 82, 82, 32, 116, 104, 101, 32, 110, 117, 109, 98, 101, 114, 32, 119, 111, 117, 108, 100, 32, 108, 101, 97, 118, 101, 32, 105, 116, 115, 32, 114, 97, 110, 103, 101]⟩
abbrev longB : ByteArray := ⟨#[69, 82, 82, 32, 116, 104, 101, 32, 118, 97, 108, 117, 101, 32, 119, 111, 117, 108, 100, 32, 98, 101, 32, 116, 111, 111, 32, 108, 111, 110, 103]⟩
abbrev rp (k : Int) (T : ByteArray) (n : Int) : Value := .agg #[.int .i64 k, .string T, .int .i64 n, .slice none 0 0]
abbrev rO (k : Int) (T : ByteArray) (n : Int) (L : Value) : Obj := .cells #[.int .i64 k, .string T, .int .i64 n, L] 28
theorem box4 {w : World} {b : Nat} {x0 x1 x2 x3 : Value} {t : TypeId} (h : w.heap[b]? = some (.cells #[x0, x1, x2, x3] t (0, 0))) :
    (w.cell? ⟨b, 0, none⟩ = some x0 ∧ w.cell? ⟨b, 1, none⟩ = some x1 ∧ w.cell? ⟨b, 2, none⟩ = some x2 ∧ w.cell? ⟨b, 3, none⟩ = some x3) ∧ ∀ i, w.frozen? ⟨b, i, none⟩ = false :=
  ⟨⟨Lib.cell_of_heap h 0, Lib.cell_of_heap h 1, Lib.cell_of_heap h 2, Lib.cell_of_heap h 3⟩, fun i => Lib.frozen_of_heap h i⟩
def fin4 (w : World) (q : Nat) (y0 y1 y2 y3 : Value) : World := (((w.setCell ⟨q, 0, none⟩ y0).setCell ⟨q, 1, none⟩ y1).setCell ⟨q, 2, none⟩ y2).setCell ⟨q, 3, none⟩ y3
theorem fin4_at {w : World} {q : Nat} {x0 x1 x2 x3 : Value} {t : TypeId} (h : w.heap[q]? = some (.cells #[x0, x1, x2, x3] t (0, 0))) (y0 y1 y2 y3 : Value) : (fin4 w q y0 y1 y2 y3).heap[q]? = some (.cells #[y0, y1, y2, y3] t (0, 0)) := by
  unfold fin4
  simpa using set_at (i := 3) (set_at (i := 2) (set_at (i := 1) (set_at (i := 0) h y0) y1) y2) y3
theorem fin4_b {B q : Nat} {w0 w : World} {y0 y1 y2 y3 : Value} (h : Below B w0 w) (hq : B ≤ q) : Below B w0 (fin4 w q y0 y1 y2 y3) := bset (bset (bset (bset h hq y0) hq y1) hq y2) hq y3
structure Sa where
  t : Bs
  there : Bool
  wrong : Bool
def sa (o : Option En) : Sa := match o with
  | none => ⟨[], false, false⟩
  | some e => if e.val.kind = 1 then ⟨e.val.text, true, false⟩ else ⟨[], false, true⟩
abbrev wt (q : Bool) : ByteArray := if q then wrongB else ⟨#[]⟩
abbrev cV (b : Nat) (now : Int) (a : Option Addr) (n c : Nat) : Value := .agg #[ptr b, .int .i64 now, .slice a n c]
theorem two_boxes (w : World) (o1 o2 : Obj) (h1 : ∃ cs t, o1 = .cells cs t (0, 0)) : Below w.heap.size w ((w.alloc o1).alloc o2) ∧ ((w.alloc o1).alloc o2).heap[w.heap.size]? = some o1 ∧ ((w.alloc o1).alloc o2).heap[w.heap.size + 1]? = some o2 ∧ ((w.alloc o1).alloc o2).heap.size = w.heap.size + 2 := by
  refine ⟨FRow.bel (alb _ _) (alb _ _) (Nat.le_refl _), ?_, ?_, by simp⟩
  · rw [Below.heap_alloc _ _ _ (by simp)]
    exact heap_alloc_new w _
  · have := heap_alloc_new (w.alloc o1) o2
    simpa using this
theorem fin2_alloc {w w1 : World} {q : Nat} {x0 x1 : Value} {t : TypeId} {o : Obj} (h : w1.heap[q]? = some (.cells #[x0, x1] t (0, 0))) (B1 : Below w.heap.size w w1) (hq : w.heap.size ≤ q) (y0 y1 : Value) : (((w1.setCell ⟨q, 0, none⟩ y0).setCell ⟨q, 1, none⟩ y1).alloc o).heap[q]? = some (.cells #[y0, y1] t (0, 0)) ∧ Below w.heap.size w (((w1.setCell ⟨q, 0, none⟩ y0).setCell ⟨q, 1, none⟩ y1).alloc o) := by
  have z : ((w1.setCell ⟨q, 0, none⟩ y0).setCell ⟨q, 1, none⟩ y1).heap[q]? = some (.cells #[y0, y1] t (0, 0)) := by simpa using set_at (i := 1) (set_at (i := 0) h y0) y1
  have b : Below w.heap.size w ((w1.setCell ⟨q, 0, none⟩ y0).setCell ⟨q, 1, none⟩ y1) := bset (bset B1 hq y0) hq y1
  exact ⟨(Below.heap_alloc _ _ _ (lt_of z)).trans z, b.alloc b.size o⟩
theorem vn_form {B : Nat} {w : World} {v : Value} {x : Vl} (h : VN B w v x) : ∃ a n c a' n' c' a'' n'' c'', v = .agg #[.int .i64 x.kind, .string (mk x.text), .slice a n c, .slice a' n' c', .slice a'' n'' c''] := by
  obtain ⟨a, b, c, rfl, h1, h2, h3⟩ := h
  obtain ⟨a1, c1, rfl, _⟩ := h1.shape
  obtain ⟨a2, c2, rfl⟩ := shapeFRow h2
  obtain ⟨a3, c3, rfl⟩ := shapeERow h3
  exact ⟨_, _, _, _, _, _, _, _, _, rfl⟩
section
variable {F X : Nat → Prop} {b : Nat} {w : World} {S : Sp}
end
end Go.Proofs.YtpibeabokedpdaaGreatDoor.QCmd
end
section
namespace Go.Proofs.YtpibeabokedpdaaGreatDoor.QPut
open Go.RowKit Go.Maps
open Go.Lib (decDigits itoa)
open Go.Proofs.YtpibeabokedpdaaGreatDoor.TextMath
open Go.Proofs.YtpibeabokedpdaaGreatDoor.SpaceMath (wout withL lkp keys Ris toD)
open Go.Proofs.YtpibeabokedpdaaGreatDoor.ValueMath (Vl chk small)
open Go.Proofs.YtpibeabokedpdaaGreatDoor.Base (mk mk_list mk_size Gr hid_of SL)
open Go.Proofs.YtpibeabokedpdaaGreatDoor.Turn
open Go.Proofs.YtpibeabokedpdaaGreatDoor.Vals
open Go.Proofs.YtpibeabokedpdaaGreatDoor.Check0 (Wel)
open Go.Proofs.YtpibeabokedpdaaGreatDoor.SBase
open Go.Proofs.YtpibeabokedpdaaGreatDoor.SFind
open Go.Proofs.YtpibeabokedpdaaGreatDoor.QBase
open Go.Proofs.YtpibeabokedpdaaGreatDoor.QCmd
open Go.Proofs.YtpibeabokedpdaaGreatDoor.BIncr
open Go.Proofs.YtpibeabokedpdaaGreatDoor.Parse (Has)
set_option linter.unusedVariables false
set_option linter.unusedSimpArgs false
/- boxes of a call's own beside a space -/
abbrev Tmp (w W : World) (k : Nat) : Prop := w.heap.size ≤ k ∧ k < W.heap.size
section
variable {F X : Nat → Prop} {b : Nat} {w W w1 w2 : World} {S S' : Sp}
theorem sp_wide (h : SP F X b w S) (hb : Below w.heap.size w W) : SP F (fun k => X k ∨ Tmp w W k) b W S :=
  h.re (fun k q => hb.block k (h.lo k q)) (Ev.of_below hb) (fun k hk q => q.elim id (fun q => by unfold Tmp at q; omega)) (fun k q => .inl (h.fx k q)) (fun k q => q.elim (fun q => Nat.lt_of_lt_of_le (h.xl k q) hb.size) (fun q => q.2))
theorem dn_tmp (h0 : SP F X b w S) (hb : Below w.heap.size w W) (h : Dn F (fun k => X k ∨ Tmp w W k) b W w1 S') (e : Ev (Tmp w W) w1 w2) : Dn F X b w w2 S' := by
  obtain ⟨F', s, ev, n⟩ := h
  have nt : ∀ k, F' k → ¬ Tmp w W k := fun k q t => by
    unfold Tmp at t
    rcases n k q with q | q
    · have := h0.lo k q; omega
    · omega
  have eW : Ev F w W := Ev.of_below hb
  refine ⟨F', s.re (fun k q => e.block k (s.lo k q) (nt k q)) (e.mono fun k _ q => .inl (.inr q)) (fun k _ q => q.elim (fun q => .inl (.inl q)) .inr) (fun k q => .inr q) (fun k q => q.elim (fun q => Nat.lt_of_lt_of_le (s.xl k (.inl (.inl q))) e.size) (fun q => Nat.lt_of_lt_of_le (s.lo k q) e.size)), ?_, fun k q => (n k q).imp id (fun q => Nat.le_trans hb.size q)⟩
  have e1 : Ev F w w1 := eW.trans ev
  refine ⟨e.os.trans e1.os, e.tape.trans e1.tape, e.output.trans e1.output, Nat.le_trans e1.size e.size, fun k hk hn => (e.block k (Nat.lt_of_lt_of_le hk e1.size) (fun t => by unfold Tmp at t; omega)).trans (e1.block k hk hn)⟩
/-- what stands beside -/
theorem dn_block {Y : Nat → Prop} (h0 : SP F Y b w S) (hb : Below w.heap.size w W) (h : Dn F X b W w1 S') {k : Nat} (hk : Tmp w W k) : w1.heap[k]? = W.heap[k]? := by
  obtain ⟨F', s, ev, n⟩ := h
  exact ev.block k hk.2 (fun q => by have := h0.lo k q; unfold Tmp at hk; omega)
theorem dn_size (h : Dn F X b W w1 S') : W.heap.size ≤ w1.heap.size := by
  obtain ⟨F', s, ev, n⟩ := h
  exact ev.size
end
/- strings -/
abbrev sV (T : Bs) : Vl := ⟨1, T, [], [], []⟩
theorem chk_s {T : Bs} (h : T.length ≤ 1048576) : chk (sV T) = 0 := by
  unfold chk ValueMath.stray ValueMath.mayBe ValueMath.tOk
  simp [h]
theorem wel_s {T : Bs} (h : T.length ≤ 1048576) : Wel (sV T) := Dec.wel_of (by unfold small; simp) ⟨by show T.length < _; omega, fun y hy => by simp at hy, fun y hy => by simp at hy, fun y hy => by simp at hy⟩
theorem small_s (T : Bs) : small (sV T) := by unfold small; simp
theorem va_s (T : Bs) (w : World) : VA w (.agg #[.int .i64 1, .string (mk T), .slice none 0 0, .slice none 0 0, .slice none 0 0]) (sV T) := ⟨_, _, _, rfl, SL.nil _ _, FRow.fs_row (FRow.or_nil 0 _), ERow.fs_row (ERow.or_nil 0 _)⟩
def pS (S : Sp) (k T : Bs) (d : Int) : Sp := ⟨withL S.l k ⟨sV T, d, S.cnt + 1⟩, S.cnt + 1, none⟩
/-- a space that a step more may be done on -/
structure Room (S : Sp) : Prop where
  m : S.mrk = none
  c : S.cnt + 1 < 18446744073709551616
  n : S.l.length + 1 < 1099511627776
theorem three_boxes (w : World) (o1 o2 o3 : Obj) : Below w.heap.size w (((w.alloc o1).alloc o2).alloc o3) ∧ (((w.alloc o1).alloc o2).alloc o3).heap[w.heap.size]? = some o1 ∧ (((w.alloc o1).alloc o2).alloc o3).heap[w.heap.size + 1]? = some o2 ∧ (((w.alloc o1).alloc o2).alloc o3).heap[w.heap.size + 2]? = some o3 ∧ (((w.alloc o1).alloc o2).alloc o3).heap.size = w.heap.size + 3 := by
  refine ⟨FRow.bel (FRow.bel (alb _ _) (alb _ _) (Nat.le_refl _)) (alb _ _) (Nat.le_refl _), ?_, ?_, ?_, by simp⟩
  · rw [Below.heap_alloc _ _ _ (by simp; omega), Below.heap_alloc _ _ _ (by simp)]
    exact heap_alloc_new w _
  · rw [Below.heap_alloc _ _ _ (by simp)]
    have := heap_alloc_new (w.alloc o1) o2
    simpa using this
  · have := heap_alloc_new ((w.alloc o1).alloc o2) o3
    simpa using this
theorem ev_fin4 {w W w1 : World} {q : Nat} (hq : Tmp w W q) (y0 y1 y2 y3 : Value) : Ev (Tmp w W) w1 (fin4 w1 q y0 y1 y2 y3) := by
  unfold fin4
  exact (((Ev.set (M := Tmp w W) hq y0).trans (Ev.set (M := Tmp w W) hq y1)).trans (Ev.set (M := Tmp w W) hq y2)).trans (Ev.set (M := Tmp w W) hq y3)
theorem fin4_ne {w : World} {q k : Nat} (h : k ≠ q) {y0 y1 y2 y3 : Value} : (fin4 w q y0 y1 y2 y3).heap[k]? = w.heap[k]? := by
  unfold fin4
  rw [set_ne h, set_ne h, set_ne h, set_ne h]
section
variable {F X : Nat → Prop} {b : Nat} {w : World} {S : Sp}
theorem due_bd (h : SP F X b w S) (k : Bs) (now : Int) : 0 ≤ dueV S now k ∧ dueV S now k ≤ 9007199254740992 := by
  unfold dueV
  cases hg : gt S now k with
  | none => simp
  | some e =>
    obtain ⟨FI, bm, bi, mv, L, s, h⟩ := h
    have he := h.ent k
    rw [(gt_some hg).1] at he
    cases q : lkp L k with
    | none => rw [q] at he; exact absurd he (by simp [Two])
    | some v =>
      rw [q] at he
      exact EnAt.due he
end
end Go.Proofs.YtpibeabokedpdaaGreatDoor.QPut
end
section
namespace Go.Proofs.YtpibeabokedpdaaGreatDoor.RCopy
open Go.RowKit Go.Maps
open Go.Proofs.YtpibeabokedpdaaGreatDoor.SetMath
open Go.Proofs.YtpibeabokedpdaaGreatDoor.ValueMath
open Go.Proofs.YtpibeabokedpdaaGreatDoor.Base
open Go.Proofs.YtpibeabokedpdaaGreatDoor.Vals
open Go.Proofs.YtpibeabokedpdaaGreatDoor.Copy (nr_set row_set set5)
set_option linter.unusedVariables false
set_option linter.unusedSimpArgs false

abbrev zB : Obj := .cells #[.int .i64 0, .string ⟨#[]⟩, .slice none 0 0, .slice none 0 0, .slice none 0 0] 40
theorem fin_nr {w : World} {B b : Nat} {v : Value} {l : List El} (h : NR B w v l) (hb : b + 3 ≤ B) {y y0 y1 y2 y3 y4 : Value} :
    NR b ((((((w.setCell ⟨b + 1 + 1, 4, none⟩ y).setCell ⟨b + 1, 0, none⟩ y0).setCell ⟨b + 1, 1, none⟩ y1).setCell ⟨b + 1, 2, none⟩ y2).setCell ⟨b + 1, 3, none⟩ y3).setCell ⟨b + 1, 4, none⟩ y4) v l :=
  (nr_set (nr_set (nr_set (nr_set (nr_set (nr_set h (by omega) y) (by omega) y0) (by omega) y1) (by omega) y2) (by omega) y3) (by omega) y4).mono (by omega)
theorem fin_row {w : World} {B b e sz n : Nat} {v : Value} {xs : List Value} (h : w.ownsRow B e sz v n xs) (hb : b + 3 ≤ B) {y y0 y1 y2 y3 y4 : Value} :
    ((((((w.setCell ⟨b + 1 + 1, 4, none⟩ y).setCell ⟨b + 1, 0, none⟩ y0).setCell ⟨b + 1, 1, none⟩ y1).setCell ⟨b + 1, 2, none⟩ y2).setCell ⟨b + 1, 3, none⟩ y3).setCell ⟨b + 1, 4, none⟩ y4).ownsRow b e sz v n xs :=
  FRow.row_mono (row_set (row_set (row_set (row_set (row_set (row_set h (by omega) y) (by omega) y0) (by omega) y1) (by omega) y2) (by omega) y3) (by omega) y4) (by omega)
theorem fin_b {w w' : World} {b : Nat} (h : Below b w w') {y y0 y1 y2 y3 y4 : Value} :
    Below b w ((((((w'.setCell ⟨b + 1 + 1, 4, none⟩ y).setCell ⟨b + 1, 0, none⟩ y0).setCell ⟨b + 1, 1, none⟩ y1).setCell ⟨b + 1, 2, none⟩ y2).setCell ⟨b + 1, 3, none⟩ y3).setCell ⟨b + 1, 4, none⟩ y4) :=
  bset (bset (bset (bset (bset (bset h (by omega) y) (Nat.le_succ _) y0) (Nat.le_succ _) y1) (Nat.le_succ _) y2) (Nat.le_succ _) y3) (Nat.le_succ _) y4
theorem keep_at {W w : World} {b i k : Nat} {v : Value} {o : Option Obj} (hW : W = w.setCell ⟨b, i, none⟩ v) (h : w.heap[k]? = o) (hk : k ≠ b) : W.heap[k]? = o := by rw [hW]; exact (set_ne hk _).trans h
set_option maxHeartbeats 4000000 in
set_option maxRecDepth 100000 in
theorem rcopy_call {w : World} {v : Value} {x : Vl} (h : VA w v x) (hf : Fit x) :
    Calls Tryz.prog 57 #[v] w fun e w' => ∃ u, e = .returned u ∧ VN w.heap.size w' u x ∧ Below w.heap.size w w' := by
  obtain ⟨a, b, c, rfl, h1, h2, h3⟩ := h
  obtain ⟨f1, f2, f3⟩ := hf
  obtain ⟨xk, xt, xl, xf, xr⟩ := x
  simp only at h1 h2 h3 f1 f2 f3 ⊢
  obtain ⟨la, lc, rfl, _, hr1⟩ := id h1
  obtain ⟨fa, fc, rfl, _, _⟩ := id h2
  obtain ⟨ea, ec, rfl, _, _⟩ := id h3
  obtain ⟨V, hV⟩ : ∃ V, V = ((w.alloc (.cells #[.int .i64 xk, .string (mk xt), .slice la xl.length lc, .slice fa xf.length fc, .slice ea xr.length ec] 40)).alloc zB).alloc (.cells #[.int .i64 xk, .string (mk xt), .slice la xl.length lc, .slice fa xf.length fc, .slice ea xr.length ec] 40) := ⟨_, rfl⟩
  have bV : Below w.heap.size w V := by rw [hV]; exact FRow.bel (FRow.bel (FRow.bnew w _) (FRow.bnew _ _) (Nat.le_refl _)) (FRow.bnew _ _) (Nat.le_refl _)
  have sV : V.heap.size = w.heap.size + 3 := by rw [hV]; simp
  have v0 : V.heap[w.heap.size]? = some (.cells #[.int .i64 xk, .string (mk xt), .slice la xl.length lc, .slice fa xf.length fc, .slice ea xr.length ec] 40 (0, 0)) := by rw [hV, hao _ _ _ (by simp; omega), hao _ _ _ (by simp)]; exact heap_alloc_new w _
  have v1 : V.heap[w.heap.size + 1]? = some (.cells #[.int .i64 0, .string ⟨#[]⟩, .slice none 0 0, .slice none 0 0, .slice none 0 0] 40 (0, 0)) := by
    rw [hV, hao _ _ _ (by simp)]
    have := heap_alloc_new (w.alloc (.cells #[.int .i64 xk, .string (mk xt), .slice la xl.length lc, .slice fa xf.length fc, .slice ea xr.length ec] 40)) zB
    simpa using this
  have v2 : V.heap[w.heap.size + 2]? = some (.cells #[.int .i64 xk, .string (mk xt), .slice la xl.length lc, .slice fa xf.length fc, .slice ea xr.length ec] 40 (0, 0)) := by
    rw [hV]
    have := heap_alloc_new ((w.alloc (.cells #[.int .i64 xk, .string (mk xt), .slice la xl.length lc, .slice fa xf.length fc, .slice ea xr.length ec] 40)).alloc zB) (.cells #[.int .i64 xk, .string (mk xt), .slice la xl.length lc, .slice fa xf.length fc, .slice ea xr.length ec] 40)
    simpa using this
  obtain ⟨r1, w1, hr1, n1, b1⟩ := app_any (B := V.heap.size) (v := .slice none 0 0) (l := []) (c := lc) (w := V) (.inl ⟨rfl, rfl⟩) (hr1.keep fun k hk _ => bV.block k hk) (.inl (by simpa using f1)) (Nat.le_refl _) 22
  rw [List.nil_append] at n1
  obtain ⟨w1', hw1'⟩ : ∃ W, W = w1.setCell ⟨w.heap.size + 2, 2, none⟩ r1 := ⟨_, rfl⟩
  have sz1 := b1.size
  have B1 : Below w.heap.size w w1' := by rw [hw1']; exact bset (FRow.bel bV b1 (Nat.le_refl _)) (by omega) r1
  have x0 := (b1.block w.heap.size (by omega)).trans v0
  have x1 := (b1.block (w.heap.size + 1) (by omega)).trans v1
  have x2 := (b1.block (w.heap.size + 2) (by omega)).trans v2
  have y0 := keep_at hw1' x0 (by omega)
  have y1 := keep_at hw1' x1 (by omega)
  have y2 : w1'.heap[w.heap.size + 2]? = some (.cells #[.int .i64 xk, .string (mk xt), r1, .slice fa xf.length fc, .slice ea xr.length ec] 40 (0, 0)) := by rw [hw1']; exact set_at x2 _
  have m1 : NR V.heap.size w1' r1 xl := by rw [hw1']; exact nr_set n1 (by omega) _
  have szw : w1'.heap.size = w1.heap.size := by rw [hw1', size_set]
  obtain ⟨r2, w2, hr2, d2⟩ := FRow.bd_app (FRow.bd_start w1') (.slice fa xf.length fc) xf (h2.below B1) (by simpa using f2)
  rw [List.nil_append] at d2
  obtain ⟨w2', hw2'⟩ : ∃ W, W = w2.setCell ⟨w.heap.size + 2, 3, none⟩ r2 := ⟨_, rfl⟩
  have sz2 := d2.bel.size
  have B2 : Below w.heap.size w w2' := by rw [hw2']; exact bset (FRow.bel B1 d2.bel (Nat.le_refl _)) (by omega) r2
  have p0 := (d2.bel.block w.heap.size (by omega)).trans y0
  have p1 := (d2.bel.block (w.heap.size + 1) (by omega)).trans y1
  have p2 := (d2.bel.block (w.heap.size + 2) (by omega)).trans y2
  have q0 := keep_at hw2' p0 (by omega)
  have q1 := keep_at hw2' p1 (by omega)
  have q2 : w2'.heap[w.heap.size + 2]? = some (.cells #[.int .i64 xk, .string (mk xt), r1, r2, .slice ea xr.length ec] 40 (0, 0)) := by rw [hw2']; exact set_at p2 _
  have m2 : NR V.heap.size w2' r1 xl := by rw [hw2']; exact nr_set (m1.below d2.bel) (by omega) _
  have m3 : FRow.OR w1'.heap.size w2' r2 xf := by rw [hw2']; exact row_set d2.row (by omega) _
  have szx : w2'.heap.size = w2.heap.size := by rw [hw2', size_set]
  obtain ⟨r3, w3, hr3, d3⟩ := ERow.bd_app (ERow.bd_start w2') (.slice ea xr.length ec) xr (h3.below B2) (by simpa using f3)
  rw [List.nil_append] at d3
  have sz3 := d3.bel.size
  have B3 := FRow.bel B2 d3.bel (Nat.le_refl _)
  have k0 := (d3.bel.block w.heap.size (by omega)).trans q0
  have k1 := (d3.bel.block (w.heap.size + 1) (by omega)).trans q1
  have k2 := (d3.bel.block (w.heap.size + 2) (by omega)).trans q2
  have o1 := m2.below d3.bel
  have o2 := FRow.row_below m3 d3.bel
  have o3 := d3.row
  obtain ⟨ra1, rc1, hs1, _⟩ := n1.shape
  obtain ⟨ra2, rc2, hs2⟩ := shapeFRow d2.row
  obtain ⟨ra3, rc3, hs3⟩ := shapeERow d3.row
  subst hs1 hs2 hs3
  have HF := hid_of (And.intro B3 (And.intro k1 (And.intro (And.intro o1 sV) (And.intro (And.intro o2 (show w.heap.size + 3 ≤ w1'.heap.size by omega)) (And.intro o3 (show w.heap.size + 3 ≤ w2'.heap.size by omega))))))
  obtain ⟨⟨a0, a1, a2, a3, a4⟩, _⟩ := box5 v0
  obtain ⟨⟨_, _, _, i3, _⟩, _⟩ := box5 x0
  obtain ⟨_, jz⟩ := box5 x2
  have jz2 := jz 2
  obtain ⟨⟨_, _, _, i3', _⟩, _⟩ := box5 y0
  obtain ⟨_, ez⟩ := box5 p2
  have ez3 := ez 3
  obtain ⟨⟨_, _, _, _, i4⟩, _⟩ := box5 p0
  obtain ⟨⟨l0, l1, l2, l3, l4⟩, lz⟩ := box5 k2
  have lz4 := lz 4
  obtain ⟨⟨u0, u1, u2, u3, u4⟩, uz⟩ := box5 k1
  have uz0 := uz 0
  have uz1 := uz 1
  have uz2 := uz 2
  have uz3 := uz 3
  have uz4 := uz 4
  have HV := hid_of hV
  have HX1 := hid_of hw1'
  have HX2 := hid_of hw2'
  clear h1 h2 h3 v0 v1 v2 x0 x1 x2 y0 y1 y2 p0 p1 p2 q0 q1 q2 k0 k1 k2 bV sV hV hw1' hw2' n1 b1 d2 d3 m1 m2 m3 B1 B2 B3 jz ez lz uz o1 o2 o3 szw szx sz1 sz2 sz3 f1 f2 f3
  go_enter Tryz.func57, Tryz.ntmps57
  go_wp2_with (first
    | (rw [← HV.out]; at_builtin; refine wpl_eq rfl _ _ 22 22 rfl (.slice none 0 0) (.slice la xl.length lc) (.slice ra1 xl.length rc1) V w1 rfl rfl hr1 ?_)
    | (rw [← HX1.out]; at_builtin; refine wpl_eq rfl _ _ 37 37 rfl (.slice none 0 0) (.slice fa xf.length fc) (.slice ra2 xf.length rc2) w1' w2 rfl rfl hr2 ?_)
    | (rw [← HX2.out]; at_builtin; refine wpl_eq rfl _ _ 38 38 rfl (.slice none 0 0) (.slice ea xr.length ec) (.slice ra3 xr.length rc3) w2' w3 rfl rfl hr3 ?_))
  obtain ⟨B3, k1, ⟨o1, e1⟩, ⟨o2, e2⟩, o3, e3⟩ := HF.out
  have t1 := keep_at (W := w3.setCell ⟨w.heap.size + 1 + 1, 4, none⟩ (.slice ra3 xr.length rc3)) rfl k1 (by omega)
  obtain ⟨⟨g0, g1, g2, g3, g4⟩, _⟩ := box5 (set5 t1 (.int .i64 xk) (.string (mk xt)) (.slice ra1 xl.length rc1) (.slice ra2 xf.length rc2) (.slice ra3 xr.length rc3))
  refine ⟨rfl, .agg #[.int .i64 xk, .string (mk xt), .slice ra1 xl.length rc1, .slice ra2 xf.length rc2, .slice ra3 xr.length rc3], ?_, _, rfl, ⟨_, _, _, rfl, fin_nr o1 (by omega), fin_row o2 (by omega), fin_row o3 (by omega)⟩, fin_b B3⟩
  simp [results, Tryz.results57, go_sem, g0, g1, g2, g3, g4]
end Go.Proofs.YtpibeabokedpdaaGreatDoor.RCopy
end
section
namespace Go.Proofs.YtpibeabokedpdaaGreatDoor.RChk
open Go.RowKit Go.Maps
open Go.Proofs.YtpibeabokedpdaaGreatDoor.SetMath
open Go.Proofs.YtpibeabokedpdaaGreatDoor.ValueMath
open Go.Proofs.YtpibeabokedpdaaGreatDoor.Base
open Go.Proofs.YtpibeabokedpdaaGreatDoor.Vals
open Go.Proofs.YtpibeabokedpdaaGreatDoor.May
set_option linter.unusedVariables false
set_option linter.unusedSimpArgs false

def emp (x : Vl) : Bool := if x.kind = 1 then false else if x.kind = 2 ∨ x.kind = 4 then decide (x.list.length = 0) else if x.kind = 3 then decide (x.fields.length = 0) else if x.kind = 5 then decide (x.ranked.length = 0) else true
set_option maxHeartbeats 2000000 in
set_option maxRecDepth 100000 in
theorem empty_raw (k : Int) (X : ByteArray) (aa ba ca : Option Addr) (an bn cn ac bc cc : Nat) (w : World) :
    Calls Tryz.prog 144 #[.agg #[.int .i64 k, .string X, .slice aa an ac, .slice ba bn bc, .slice ca cn cc]] w fun e w' => e = .returned (.bool (if k = 1 then false else if k = 2 ∨ k = 4 then decide (an = 0) else if k = 3 then decide (bn = 0) else if k = 5 then decide (cn = 0) else true)) ∧ Below w.heap.size w w' := by
  by_cases h1 : k = 1
  · rw [if_pos h1]
    subst h1
    go_enter Tryz.func144, Tryz.ntmps144
    go_wp2
    go_ret
    exact ⟨rfl, FRow.bnew w _⟩
  · rw [if_neg h1]
    have e1 : (k == 1) = false := by simpa using h1
    by_cases h2 : k = 2
    · rw [if_pos (Or.inl h2)]
      subst h2
      go_enter Tryz.func144, Tryz.ntmps144
      go_wp2
      go_ret
      exact ⟨ret_b (by rw [Bool.eq_iff_iff]; simp), FRow.bnew w _⟩
    · have e2 : (k == 2) = false := by simpa using h2
      by_cases h4 : k = 4
      · rw [if_pos (Or.inr h4)]
        subst h4
        go_enter Tryz.func144, Tryz.ntmps144
        go_wp2
        go_ret
        exact ⟨ret_b (by rw [Bool.eq_iff_iff]; simp), FRow.bnew w _⟩
      · rw [if_neg (by omega)]
        have e4 : (k == 4) = false := by simpa using h4
        by_cases h3 : k = 3
        · rw [if_pos h3]
          subst h3
          go_enter Tryz.func144, Tryz.ntmps144
          go_wp2
          go_ret
          exact ⟨ret_b (by rw [Bool.eq_iff_iff]; simp), FRow.bnew w _⟩
        · rw [if_neg h3]
          have e3 : (k == 3) = false := by simpa using h3
          by_cases h5 : k = 5
          · rw [if_pos h5]
            subst h5
            go_enter Tryz.func144, Tryz.ntmps144
            go_wp2
            go_ret
            exact ⟨ret_b (by rw [Bool.eq_iff_iff]; simp), FRow.bnew w _⟩
          · rw [if_neg h5]
            have e5 : (k == 5) = false := by simpa using h5
            go_enter Tryz.func144, Tryz.ntmps144
            go_wp2
            go_ret
            exact ⟨rfl, FRow.bnew w _⟩
/- fields: each, then all -/
def fAt (l : FL) (k : Nat) : Bool := match l[k]? with
  | none => true
  | some e => tOk e.1 && (tOk e.2 && (k == 0 || match l[k - 1]? with
    | none => true
    | some a => decide (a.1 < e.1)))
theorem fAt_at {l : FL} {k : Nat} (hk : k < l.length) : fAt l k = (tOk l[k].1 && (tOk l[k].2 && (k == 0 || decide ((l[k - 1]'(by omega)).1 < l[k].1)))) := by
  unfold fAt
  rw [List.getElem?_eq_getElem hk, List.getElem?_eq_getElem (show k - 1 < l.length by omega)]
def fAll (l : FL) : Bool := (List.range l.length).all (fAt l)
theorem fAll_no {l : FL} {k : Nat} (hk : k < l.length) (h : fAt l k = false) : fAll l = false := by
  unfold fAll
  cases e : (List.range l.length).all (fAt l)
  · rfl
  · rw [List.all_eq_true.1 e k (List.mem_range.2 hk)] at h
    cases h
theorem fAll_yes {l : FL} (h : ∀ j, j < l.length → fAt l j = true) : fAll l = true := List.all_eq_true.2 fun j hj => h j (List.mem_range.1 hj)
theorem fn_at (l : FL) (k : Nat) (h : k < (fnames l).length) : (fnames l)[k] = (l[k]'(by simpa [fnames] using h)).1 := by simp [fnames]
theorem fAll_hash {l : FL} (h : 0 < l.length) : fAll l = hashOk l := by
  rw [Bool.eq_iff_iff]
  unfold hashOk setOk lOk
  simp only [Bool.and_eq_true, List.all_eq_true, decide_eq_true_eq]
  constructor
  · intro q
    have q' : ∀ j (hj : j < l.length), fAt l j = true := fun j hj => List.all_eq_true.1 q j (List.mem_range.2 hj)
    refine ⟨fun p hp => ?_, ⟨fun t ht => ?_, by unfold fnames; simpa using h⟩, ?_⟩
    · obtain ⟨j, hj, rfl⟩ := List.getElem_of_mem hp
      have := q' j hj
      rw [fAt_at hj] at this
      simp only [Bool.and_eq_true] at this
      exact this.2.1
    · obtain ⟨p, hp, rfl⟩ := List.mem_map.1 ht
      obtain ⟨j, hj, rfl⟩ := List.getElem_of_mem hp
      have := q' j hj
      rw [fAt_at hj] at this
      simp only [Bool.and_eq_true] at this
      exact this.1
    · refine Small.adj_ris fun k hk => ?_
      have hk' : k + 1 < l.length := by unfold fnames at hk; simpa using hk
      have := q' (k + 1) hk'
      rw [fAt_at hk'] at this
      simp only [Bool.and_eq_true, Bool.or_eq_true, decide_eq_true_eq] at this
      rw [fn_at, fn_at]
      rcases this.2.2 with q | q
      · simp at q
      · exact q
  · rintro ⟨h1, ⟨h2, _⟩, h3⟩
    refine fAll_yes fun j hj => ?_
    rw [fAt_at hj]
    simp only [Bool.and_eq_true, Bool.or_eq_true, decide_eq_true_eq]
    refine ⟨h2 _ (List.mem_map.2 ⟨l[j], List.getElem_mem hj, rfl⟩), h1 _ (List.getElem_mem hj), ?_⟩
    by_cases h0 : j = 0
    · left; simpa using h0
    · right
      have := ris_at (l := fnames l) h3 (i := j - 1) (j := j) (by omega) (by unfold fnames; simpa using hj)
      rw [fn_at, fn_at] at this
      exact this
set_option maxHeartbeats 8000000 in
set_option maxRecDepth 100000 in
theorem fields_call {w : World} {v : Value} {l : FL} (h : FRow.FS w v l) (hb : l.length ≤ 140737488355328) (hs : Fok l) :
    Calls Tryz.prog 146 #[v] w fun e w' => e = .returned (.bool (fAll l)) ∧ Below w.heap.size w w' := by
  have HF := hid_of h
  have HS := hid_of hs
  obtain ⟨a, c, rfl, hc, hr⟩ := h
  obtain ⟨L, HL⟩ : ∃ L, Hid (L = List.length l) := ⟨_, hid_of rfl⟩
  rw [← HL.out] at hb hc HF ⊢
  clear hr hs hc
  go_enter Tryz.func146, Tryz.ntmps146
  go_wp2_with fail
  go_loopg [3] L (fun g s3 wx => ∃ j : Nat, j ≤ L ∧ L ≤ j + g ∧ s3 = .int .i64 (j : Int) ∧ Hid (∀ i, i < j → fAt l i = true) ∧ Hid (Below w.heap.size w wx))
  case atStart => exact ⟨0, by omega, by omega, rfl, hid_of (fun i hi => by omega), hid_of (Below.refl _ _)⟩
  case round =>
    obtain ⟨j, hj, hg, rfl, HA, R⟩ := hrel
    by_cases hlt : j < L
    · obtain ⟨g', rfl⟩ : ∃ g', gk = g' + 1 := ⟨gk - 1, by omega⟩
      have hjl : j < List.length l := by rw [← HL.out]; exact hlt
      obtain ⟨ga, oa, rfl, ha⟩ := FRow.FS.at (HF.out.below R.out) hjl
      obtain ⟨a0, a1⟩ := ha j hjl
      obtain ⟨p0, p1⟩ := ha (j - 1) (by omega)
      clear ha
      have HO := hid_of (fAt_at hjl)
      have HN : Hid (fAt l j = true → ∀ i, i < j + 1 → fAt l i = true) := hid_of fun q i hi => by
        by_cases e : i = j
        · subst e; exact q
        · exact HA.out i (by omega)
      have HX : Hid (fAt l j = false → fAll l = false) := hid_of fun q => fAll_no hjl q
      have hs1 := HS.out.n _ (List.getElem_mem hjl)
      have hs2 := HS.out.v _ (List.getElem_mem hjl)
      generalize l[j - 1]'(by omega) = z at *
      generalize l[j] = x at *
      obtain ⟨x1, x2⟩ := x
      obtain ⟨z1, z2⟩ := z
      simp only at a0 a1 HN HX HO p0 p1 hs1 hs2
      have w1 : IntKind.i64.wrap ((j : Int) + 1) = (j : Int) + 1 := IntWalk.i64_in _ (by omega)
      have d1 : (j : Int) < (L : Int) := by omega
      have ll := str_lt z1 x1
      have m1 := mk_size x1
      have m2 := mk_size x2
      have k1 : decide ((1048576 : Int) < ((mk x1).size : Int)) = !tOk x1 := by unfold tOk; rw [m1, Bool.eq_iff_iff]; simp; omega
      have k2 : decide ((1048576 : Int) < ((mk x2).size : Int)) = !tOk x2 := by unfold tOk; rw [m2, Bool.eq_iff_iff]; simp; omega
      clear m1 m2 hs1 hs2
      generalize mk x1 = X1 at *
      generalize mk x2 = X2 at *
      generalize mk z1 = Z1 at *
      generalize mk z2 = Z2 at *
      generalize tOk x1 = b1 at *
      generalize tOk x2 = b2 at *
      generalize decide (z1 < x1) = b3 at *
      have fin : Hid (fAt l j = false → fAll l = false) := HX
      have wz : IntKind.i64.wrap ((j : Int) - 1) = ((j - 1 : Nat) : Int) ∨ j = 0 := by
        by_cases h0 : j = 0
        · exact Or.inr h0
        · left; rw [show ((j - 1 : Nat) : Int) = (j : Int) - 1 by omega]; exact IntWalk.i64_in _ (by omega)
      cases b1
      · have HZ := hid_of (HX.out (by rw [HO.out]; rfl))
        simp only [Bool.not_false] at k1
        clear HX HN HO fin wz k2 ll p0 p1
        go_wp2_with fail
        go_quiet (fail)
        go_wp2_with fail
        go_ret
        exact ⟨ret_b HZ.out.symm, FRow.bdrew R.out nq⟩
      · simp only [Bool.not_true] at k1
        cases b2
        · have HZ := hid_of (HX.out (by rw [HO.out]; rfl))
          simp only [Bool.not_false] at k2
          clear HX HN HO fin wz ll p0 p1
          go_wp2_with fail
          go_quiet (fail)
          go_wp2_with fail
          go_ret
          exact ⟨ret_b HZ.out.symm, FRow.bdrew R.out nq⟩
        · simp only [Bool.not_true] at k2
          by_cases h0 : j = 0
          · have h00 : decide ((0 : Int) < (j : Int)) = false := decide_eq_false (by omega)
            have h01 : decide (0 < j) = false := decide_eq_false (by omega)
            have HZ := hid_of (HN.out (by rw [HO.out, h0]; rfl))
            clear HX HN HO fin wz ll p0 p1 h0
            go_wp2_with fail
            go_quiet (fail)
            go_wp2_with fail
            go_roundg g'
            case measure => omega
            case rel => exact ⟨j + 1, by omega, by omega, by simp, HZ, hid_of (FRow.bdrew R.out nq)⟩
          · have h00 : decide ((0 : Int) < (j : Int)) = true := decide_eq_true (by omega)
            have h01 : decide (0 < j) = true := decide_eq_true (by omega)
            have wz' := wz.resolve_right h0
            have hj0 : (j == 0) = false := by simpa using h0
            have ix : j - 1 < L := by omega
            have HO2 := hid_of (HO.out.trans (by rw [hj0]; rfl : _ = b3))
            clear HO hj0 wz fin h0
            cases b3
            · have HZ := hid_of (HX.out HO2.out)
              clear HX HN HO2
              go_wp2_with fail
              go_quiet (fail)
              go_wp2_with fail
              go_ret
              exact ⟨ret_b HZ.out.symm, FRow.bdrew R.out nq⟩
            · have HZ := hid_of (HN.out HO2.out)
              clear HX HN HO2
              go_wp2_with fail
              go_quiet (fail)
              go_wp2_with fail
              go_roundg g'
              case measure => omega
              case rel => exact ⟨j + 1, by omega, by omega, by simp, HZ, hid_of (FRow.bdrew R.out nq)⟩
    · obtain rfl : j = L := by omega
      have d1 : ¬ (j : Int) < (j : Int) := by omega
      have HT : Hid (fAll l = true) := hid_of (fAll_yes fun i hi => HA.out i (by have := HL.out; omega))
      go_wp2_with fail
      go_ret
      exact ⟨ret_b HT.out.symm, R.out⟩
end Go.Proofs.YtpibeabokedpdaaGreatDoor.RChk
end
