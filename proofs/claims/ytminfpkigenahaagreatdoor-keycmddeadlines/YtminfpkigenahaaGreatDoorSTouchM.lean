/- touch and note of a space without a mark; New. What stood in memory stands when more is laid there. The copy of a value: the program's and the document's. strayed. -/
import Derived.Test.YtminfpkigenahaaGreatDoorSMathM
import Derived.Laws.Rows
import Derived.Test.YtminfpkigenahaaGreatDoorEqualM
import Derived.Test.YtminfpkigenahaaGreatDoorCmpM
section
namespace Go.Proofs.YtminfpkigenahaaGreatDoor.STouch
open Go.RowKit Go.Maps
open Go.Proofs.YtminfpkigenahaaGreatDoor.SpaceMath (wout withL lkp keys Ris toD)
open Go.Proofs.YtminfpkigenahaaGreatDoor.ValueMath (Vl chk small)
open Go.Proofs.YtminfpkigenahaaGreatDoor.Base (mk mk_list mk_size Gr hid_of)
open Go.Proofs.YtminfpkigenahaaGreatDoor.Turn
open Go.Proofs.YtminfpkigenahaaGreatDoor.RowB (Es)
open Go.Proofs.YtminfpkigenahaaGreatDoor.IndexS (IX)
open Go.Proofs.YtminfpkigenahaaGreatDoor.SBase
open Go.Proofs.YtminfpkigenahaaGreatDoor.SFind
open Go.Proofs.YtminfpkigenahaaGreatDoor.SMath
open Go.Proofs.YtminfpkigenahaaGreatDoor.SSet
set_option linter.unusedVariables false
set_option linter.unusedSimpArgs false
theorem b_ne_bm {F X FI : Nat → Prop} {b bm bi : Nat} {mv : Value} {L : KL Value} {s : Es} {w : World} {S : Sp} (h : SPa F X FI b bm bi mv L s w S) : b ≠ bm := fun q => by
  obtain ⟨es, c, m, _⟩ := h.map
  have := h.blk
  rw [q, m] at this
  cases this
/-- the space's own block has turned -/
theorem blk_fin {F X FI : Nat → Prop} {b bm bi : Nat} {mv mv' : Value} {L : KL Value} {s : Es} {w w' : World} {S S' : Sp} (h : SPa F X FI b bm bi mv L s w S) (e1 : Ev (fun k => k = b) w w') (blk : w'.heap[b]? = some (.cells #[.map (some bm), ptr bi, .int .u64 S'.cnt, mv'] 44 (0, 0))) (hl : S'.l = S.l) (mark : MarkAt F FI X b bm w' mv' S'.mrk) (num : S'.cnt < 18446744073709551616) : SPa F X FI b bm bi mv' L s w' S' := by
  have evX : Ev X w w' := e1.mono fun k _ q => by rw [q]; exact h.fx b h.fb
  refine ⟨blk, h.fb, h.fm, h.fi, h.nb, h.nm, fun k q => Nat.lt_of_lt_of_le (h.lo k q) e1.size, h.fx, fun k q => Nat.lt_of_lt_of_le (h.xl k q) e1.size, ?_, h.ris, by rw [hl]; exact h.ris2, h.kl, fun k => by rw [hl]; exact (h.ent k).mono fun a b q => EnAt.re q evX (fun k _ q => q), ?_, by rw [hl]; exact h.du, mark, num⟩
  · obtain ⟨es, c, q, r⟩ := h.map
    exact ⟨es, c, (e1.block bm (lt_of q) (fun e => b_ne_bm h e.symm)).trans q, r⟩
  · refine ix_re h.ix e1.size (fun k hl q => ?_) (fun k hl q => ?_) (fun k q => .inr q)
    · rcases q with q | q
      · exact e1.block k hl (fun e => h.nb (by rw [← e]; exact q))
      · omega
    · rcases q with q | q
      · exact .inl q
      · omega
theorem dn_same {F X : Nat → Prop} {b : Nat} {w w' : World} {S S' : Sp} (h : SP F X b w S) (h' : SP F X b w' S') (e : Ev (fun k => k = b) w w') (fb : F b) : Dn F X b w w' S' :=
  ⟨F, h'.re (fun _ _ => rfl) (Ev.refl _ _) (fun k _ q => q.elim id (h'.fx k)) (fun k q => .inr q) (fun k q => q.elim (h'.xl k) (h'.lo k)), e.mono (fun k _ q => by rw [q]; exact fb), fun k q => .inl q⟩
theorem setev (w : World) (b i : Nat) (v : Value) : Ev (fun k => k = b) w (w.setCell ⟨b, i, none⟩ v) := Ev.set (M := fun k => k = b) rfl v
set_option maxRecDepth 100000 in
theorem touch_none {F X : Nat → Prop} {b : Nat} {w : World} {S : Sp} (h : SP F X b w S) (hm : S.mrk = none) (hc : S.cnt + 1 < 18446744073709551616) (K : ByteArray) :
    Calls Tryz.prog 14 #[ptr b, .string K] w fun r w' => r = .returned (.tuple #[]) ∧ Dn F X b w w' ⟨S.l, S.cnt + 1, none⟩ := by
  have HS := hid_of h
  obtain ⟨FI, bm, bi, mv, L, s, h⟩ := h
  obtain rfl : mv = .pointer none := by have := h.mark; rw [hm] at this; exact this
  have HH := hid_of h
  have c2 : w.cell? ⟨b, 2, none⟩ = some (.int .u64 (S.cnt : Int)) := Lib.cell_of_heap h.blk 2
  have c3 : w.cell? ⟨b, 3, none⟩ = some (.pointer none) := Lib.cell_of_heap h.blk 3
  have f2 : w.frozen? ⟨b, 2, none⟩ = false := Lib.frozen_of_heap h.blk 2
  have hw : IntKind.u64.wrap ((S.cnt : Int) + 1) = (S.cnt : Int) + 1 := IntWalk.u64_in _ (by omega)
  clear h
  go_enter Tryz.func14, Tryz.ntmps14
  go_wp2_with fail
  go_end0
  have e1 := setev w b 2 (.int .u64 ((S.cnt : Int) + 1))
  refine ⟨rfl, dn_same HS.out ⟨FI, bm, bi, _, L, s, blk_fin HH.out e1 (mv' := .pointer none) ?_ rfl rfl hc⟩ e1 HH.out.fb⟩
  have := set_at (i := 2) HH.out.blk (.int .u64 ((S.cnt : Int) + 1))
  simpa using this
set_option maxRecDepth 100000 in
theorem note_none {F X : Nat → Prop} {b : Nat} {w : World} {S : Sp} (h : SP F X b w S) (hm : S.mrk = none) (kd k2 d : Int) (K T : ByteArray) (a1 a2 a3 : Option Addr) (n1 c1 n2 c2 n3 c3 : Nat) :
    Calls Tryz.prog 16 #[ptr b, .agg #[.int .i64 kd, .string K, .int .i64 k2, .string T, .slice a1 n1 c1, .slice a2 n2 c2, .slice a3 n3 c3, .int .i64 d]] w fun r w' => r = .returned (.tuple #[]) ∧ Below w.heap.size w w' := by
  obtain ⟨FI, bm, bi, mv, L, s, h⟩ := h
  obtain rfl : mv = .pointer none := by have := h.mark; rw [hm] at this; exact this
  have c3 : w.cell? ⟨b, 3, none⟩ = some (.pointer none) := Lib.cell_of_heap h.blk 3
  have hbl := lt_of h.blk
  clear h
  go_enter Tryz.func16, Tryz.ntmps16
  go_wp2_with fail
  go_end0
  exact ⟨rfl, alb _ _⟩
/- a new space -/
abbrev iO : Obj := .cells #[.slice none 0 0, .map none] 90
set_option maxRecDepth 100000 in
theorem newix_call (w : World) : Calls Tryz.prog 19 #[] w fun r w' => r = .returned (ptr w.heap.size) ∧ w' = w.alloc iO := by
  go_enter Tryz.func19, Tryz.ntmps19
  go_wp2_with fail
  go_ret
  exact ⟨rfl, rfl⟩
theorem new_ix (w : World) {M : Nat → Prop} (hM : ∀ k, w.heap.size ≤ k → M k) : IX M w.heap.size (w.alloc iO) [] := by
  refine ⟨[], ⟨⟨.slice none 0 0, .map none, ⟨heap_alloc_new w _, hM _ (Nat.le_refl _), World.ownsRow_nil _ _ _ _, .inl ⟨rfl, rfl⟩, (fun i j hi => absurd hi (by simp)), (fun e he => by cases he), (fun g hg => by simp [Value.ownBlock] at hg), (fun k hk => hM k (by simp at hk; omega))⟩⟩, by simp⟩, fun i hi hl => absurd hl (by simp), List.Perm.refl _⟩
abbrev mO : Obj := .map #[] 0
set_option maxRecDepth 100000 in
theorem empty_raw {b : Nat} {w : World} {x0 x1 x2 x3 : Value} (h : w.heap[b]? = some (.cells #[x0, x1, x2, x3] 44 (0, 0))) :
    Calls Tryz.prog 10 #[ptr b] w fun r w' => r = .returned (.tuple #[]) ∧ w' = (((w.setCell ⟨b, 0, none⟩ (.map (some w.heap.size))).setCell ⟨b, 1, none⟩ (ptr (w.heap.size + 1))).alloc mO).alloc iO := by
  have f0 : w.frozen? ⟨b, 0, none⟩ = false := Lib.frozen_of_heap h 0
  have f1 : w.frozen? ⟨b, 1, none⟩ = false := Lib.frozen_of_heap h 1
  have c0 : w.cell? ⟨b, 0, none⟩ = some x0 := Lib.cell_of_heap h 0
  have c1 : w.cell? ⟨b, 1, none⟩ = some x1 := Lib.cell_of_heap h 1
  have hbl := lt_of h
  have nb : b ≠ w.heap.size := by omega
  have HN := hid_of newix_call
  have qmm : (Instr.makeMap 39 none).run Tryz.prog w = .ok (.map (some w.heap.size)) (w.alloc (.map #[] 0)) := by kernel_rfl
  clear h
  go_enter Tryz.func10, Tryz.ntmps10
  go_wp2_with fail
  refine (HN.out _).mono ?_
  rintro r w1 ⟨rfl, rfl⟩
  go_wp2_with fail
  go_end0
  exact ⟨rfl, rfl⟩
/-- an empty space at a block, its map and its index new -/
theorem fresh {b : Nat} {w : World} {x0 x1 x3 : Value} {n : Nat} (h : w.heap[b]? = some (.cells #[x0, x1, .int .u64 (n : Int), x3] 44 (0, 0))) {w' : World} (hw : w' = (((w.setCell ⟨b, 0, none⟩ (.map (some w.heap.size))).setCell ⟨b, 1, none⟩ (ptr (w.heap.size + 1))).alloc mO).alloc iO) :
    w'.heap.size = w.heap.size + 2 ∧ w'.heap[b]? = some (.cells #[.map (some w.heap.size), ptr (w.heap.size + 1), .int .u64 (n : Int), x3] 44 (0, 0)) ∧ w'.ownsMap Tryz.prog 9 RH w.heap.size 0 (toD []) ∧ (∀ M : Nat → Prop, (∀ k, w.heap.size + 1 ≤ k → M k) → IX M (w.heap.size + 1) w' []) ∧ Ev (fun k => k = b) w w' := by
  have hbl := lt_of h
  obtain ⟨U, hU⟩ : ∃ U, U = (w.setCell ⟨b, 0, none⟩ (.map (some w.heap.size))).setCell ⟨b, 1, none⟩ (ptr (w.heap.size + 1)) := ⟨_, rfl⟩
  have s0 : U.heap.size = w.heap.size := by rw [hU, size_set, size_set]
  have s1 : (U.alloc mO).heap.size = w.heap.size + 1 := by rw [← s0]; simp
  rw [← hU] at hw
  have hb : U.heap[b]? = some (.cells #[.map (some w.heap.size), ptr (w.heap.size + 1), .int .u64 (n : Int), x3] 44 (0, 0)) := by
    rw [hU]
    simpa using set_at (i := 1) (set_at (i := 0) h (.map (some w.heap.size))) (ptr (w.heap.size + 1))
  refine ⟨by rw [hw]; simp [s0], ?_, ?_, fun M hM => ?_, ?_⟩
  · rw [hw, Below.heap_alloc _ _ b (by omega), Below.heap_alloc _ _ b (by omega)]
    exact hb
  · rw [hw]
    have := World.ownsMap_made (H := Value) U Tryz.prog 9 RH
    rw [s0] at this
    exact this.alloc _
  · rw [hw]
    have ix := new_ix (U.alloc mO) (M := M) (fun k hk => hM k (by rw [s1] at hk; exact hk))
    rw [s1] at ix
    exact ix
  · rw [hw, hU]
    exact (((setev w b 0 _).trans (setev _ b 1 _)).alloc _).alloc _
/-- New -/
def NewE (w : World) (r : Ending) (w' : World) : Prop := ∃ F, r = .returned (ptr w.heap.size) ∧ SP F F w.heap.size w' ⟨[], 0, none⟩ ∧ Below w.heap.size w w' ∧ ∀ k, F k → w.heap.size ≤ k
abbrev sO : Obj := .cells #[.map none, .pointer none, .int .u64 0, .pointer none] 44
set_option maxRecDepth 100000 in
theorem new_call (w : World) : Calls Tryz.prog 4 #[] w (NewE w) := by
  have h0 : (w.alloc sO).heap[w.heap.size]? = some (.cells #[.map none, .pointer none, .int .u64 ((0 : Nat) : Int), .pointer none] 44 (0, 0)) := heap_alloc_new w _
  have H1 := hid_of (empty_raw h0)
  have HF := hid_of (fresh h0 rfl)
  have sz : (w.alloc sO).heap.size = w.heap.size + 1 := by simp
  have HZ := hid_of sz
  obtain ⟨W, hW⟩ : ∃ W, W = w.alloc sO := ⟨_, rfl⟩
  rw [← hW] at H1 HF HZ
  have HW := hid_of hW
  clear h0 sz hW
  go_enter Tryz.func4, Tryz.ntmps4
  go_wp2_with fail
  rw [← HW.out]
  refine H1.out.mono ?_
  rintro r w1 ⟨rfl, hw1⟩
  rw [← hw1] at HF
  have HB := hid_of (show Below w.heap.size w w1 from by
    have e := HF.out.2.2.2.2
    have e0 : Below w.heap.size w W := by rw [HW.out]; exact alb _ _
    exact e0.trans (e.below e0.size (fun k q => Nat.le_of_eq q.symm)))
  clear hw1 H1
  go_wp2_with fail
  go_ret
  obtain ⟨hs, hb, own, ix, ev⟩ := HF.out
  have z := HZ.out
  refine ⟨fun k => w.heap.size ≤ k ∧ k < w1.heap.size, rfl, ⟨fun k => k = w.heap.size + 2, w.heap.size + 1, w.heap.size + 2, .pointer none, [], [], ?_⟩, HB.out, fun k q => q.1⟩
  rw [z] at hs hb own ix
  refine ⟨hb, ⟨Nat.le_refl _, by omega⟩, ⟨by omega, by omega⟩, fun k q => by rw [q]; exact ⟨by omega, by omega⟩, fun q => by omega, fun q => by omega, fun k q => q.2, fun k q => q, fun k q => q.2, own, List.Pairwise.nil, List.Pairwise.nil, (fun p hp => by cases hp), (fun k => trivial), ?_, List.Perm.refl _, rfl, by decide⟩
  have := ix (fun k => w.heap.size + 2 ≤ k) (fun k q => q)
  refine ix_re this (Nat.le_refl _) (fun _ _ _ => rfl) (fun k hk q => .inl ?_) (fun k q => .inr q)
  have q : w.heap.size + 2 ≤ k := q
  omega
end Go.Proofs.YtminfpkigenahaaGreatDoor.STouch
end
section
namespace Go.Proofs.YtminfpkigenahaaGreatDoor
theorem hao (w : World) (o : Obj) (i : Nat) (h : i < w.heap.size) : (w.alloc o).heap[i]? = w.heap[i]? := by
  show (w.heap.push o)[i]? = w.heap[i]?
  rw [Array.getElem?_push, if_neg (Nat.ne_of_lt h)]
end Go.Proofs.YtminfpkigenahaaGreatDoor
end
section
namespace Go.Proofs.YtminfpkigenahaaGreatDoor.Copy
open Go.RowKit Go.Maps
open Go.Proofs.YtminfpkigenahaaGreatDoor.SetMath
open Go.Proofs.YtminfpkigenahaaGreatDoor.ValueMath
open Go.Proofs.YtminfpkigenahaaGreatDoor.Base
open Go.Proofs.YtminfpkigenahaaGreatDoor.Vals
set_option linter.unusedVariables false

theorem row_set {w : World} {B e sz n : Nat} {v : Value} {xs : List Value} (h : w.ownsRow B e sz v n xs) {b i : Nat} (hb : b < B) (x : Value) : (w.setCell ⟨b, i, none⟩ x).ownsRow B e sz v n xs := by
  refine ⟨h.1, h.2.imp id ?_⟩
  rintro ⟨g, cap, cur, rfl, hbg, hg, rest⟩
  exact ⟨g, cap, cur, rfl, hbg, (set_ne (by omega) x).trans hg, rest⟩
theorem nr_set {w : World} {B : Nat} {v : Value} {l : List El} (h : NR B w v l) {b i : Nat} (hb : b < B) (x : Value) : NR B (w.setCell ⟨b, i, none⟩ x) v l := h.keep fun k _ hk => set_ne (by omega) x
/- what is stored in a box of five -/
theorem set5 {w : World} {b : Nat} {x0 x1 x2 x3 x4 : Value} {t : TypeId} (h : w.heap[b]? = some (.cells #[x0, x1, x2, x3, x4] t (0, 0))) (y0 y1 y2 y3 y4 : Value) :
    (((((w.setCell ⟨b, 0, none⟩ y0).setCell ⟨b, 1, none⟩ y1).setCell ⟨b, 2, none⟩ y2).setCell ⟨b, 3, none⟩ y3).setCell ⟨b, 4, none⟩ y4).heap[b]? = some (.cells #[y0, y1, y2, y3, y4] t (0, 0)) :=
  set_at (set_at (set_at (set_at (set_at h y0) y1) y2) y3) y4
theorem fin_nr {w : World} {B b : Nat} {v : Value} {l : List El} (h : NR B w v l) (hb : b + 2 ≤ B) {y y0 y1 y2 y3 y4 : Value} :
    NR b ((((((w.setCell ⟨b, 4, none⟩ y).setCell ⟨b + 1, 0, none⟩ y0).setCell ⟨b + 1, 1, none⟩ y1).setCell ⟨b + 1, 2, none⟩ y2).setCell ⟨b + 1, 3, none⟩ y3).setCell ⟨b + 1, 4, none⟩ y4) v l :=
  (nr_set (nr_set (nr_set (nr_set (nr_set (nr_set h (by omega) y) (by omega) y0) (by omega) y1) (by omega) y2) (by omega) y3) (by omega) y4).mono (by omega)
theorem fin_row {w : World} {B b e sz n : Nat} {v : Value} {xs : List Value} (h : w.ownsRow B e sz v n xs) (hb : b + 2 ≤ B) {y y0 y1 y2 y3 y4 : Value} :
    ((((((w.setCell ⟨b, 4, none⟩ y).setCell ⟨b + 1, 0, none⟩ y0).setCell ⟨b + 1, 1, none⟩ y1).setCell ⟨b + 1, 2, none⟩ y2).setCell ⟨b + 1, 3, none⟩ y3).setCell ⟨b + 1, 4, none⟩ y4).ownsRow b e sz v n xs :=
  FRow.row_mono (row_set (row_set (row_set (row_set (row_set (row_set h (by omega) y) (by omega) y0) (by omega) y1) (by omega) y2) (by omega) y3) (by omega) y4) (by omega)
theorem fin_b {w w' : World} {b : Nat} (h : Below b w w') {y y0 y1 y2 y3 y4 : Value} :
    Below b w ((((((w'.setCell ⟨b, 4, none⟩ y).setCell ⟨b + 1, 0, none⟩ y0).setCell ⟨b + 1, 1, none⟩ y1).setCell ⟨b + 1, 2, none⟩ y2).setCell ⟨b + 1, 3, none⟩ y3).setCell ⟨b + 1, 4, none⟩ y4) :=
  bset (bset (bset (bset (bset (bset h (Nat.le_refl _) y) (Nat.le_succ _) y0) (Nat.le_succ _) y1) (Nat.le_succ _) y2) (Nat.le_succ _) y3) (Nat.le_succ _) y4
set_option maxHeartbeats 4000000 in
set_option maxRecDepth 100000 in
theorem copy_call {w : World} {v : Value} {x : Vl} (h : VA w v x) (hf : Fit x) :
    Calls Tryz.prog 13 #[v] w fun e w' => ∃ u, e = .returned u ∧ VN w.heap.size w' u x ∧ Below w.heap.size w w' := by
  obtain ⟨a, b, c, rfl, h1, h2, h3⟩ := h
  obtain ⟨f1, f2, f3⟩ := hf
  obtain ⟨xk, xt, xl, xf, xr⟩ := x
  simp only at h1 h2 h3 f1 f2 f3 ⊢
  obtain ⟨V, hV⟩ : ∃ V, V = (w.alloc (.cells #[.int .i64 xk, .string (mk xt), a, b, c] 30)).alloc (.cells #[.int .i64 0, .string ⟨#[]⟩, .slice none 0 0, .slice none 0 0, .slice none 0 0] 30) := ⟨_, rfl⟩
  have bV : Below w.heap.size w V := by rw [hV]; exact FRow.bel (FRow.bnew w _) (FRow.bnew _ _) (Nat.le_refl _)
  have sV : V.heap.size = w.heap.size + 2 := by rw [hV]; simp
  have v0 : V.heap[w.heap.size]? = some (.cells #[.int .i64 xk, .string (mk xt), a, b, c] 30 (0, 0)) := by rw [hV, hao _ _ _ (by simp)]; exact heap_alloc_new w _
  have v1 : V.heap[w.heap.size + 1]? = some (.cells #[.int .i64 0, .string ⟨#[]⟩, .slice none 0 0, .slice none 0 0, .slice none 0 0] 30 (0, 0)) := by
    rw [hV]; have := heap_alloc_new (w.alloc (.cells #[.int .i64 xk, .string (mk xt), a, b, c] 30)) (.cells #[.int .i64 0, .string ⟨#[]⟩, .slice none 0 0, .slice none 0 0, .slice none 0 0] 30); simpa using this
  have HC1 := hid_of (Of.clone_call (h1.below bV) f1)
  have HV1 := hid_of v1
  have HV0 := hid_of v0
  have HBV := hid_of bV
  have HSV := hid_of sV
  obtain ⟨⟨c0, c1, c2, c3, c4⟩, z⟩ := box5 v0
  have HW := hid_of hV
  clear h1 v0 v1 bV sV hV
  go_enter Tryz.func13, Tryz.ntmps13
  go_wp2_with fail
  rw [← HW.out]
  refine HC1.out.mono ?_
  rintro e w1 ⟨r1, rfl, n1, b1⟩
  have v0 : w1.heap[w.heap.size]? = some (.cells #[.int .i64 xk, .string (mk xt), a, b, c] 30 (0, 0)) := (b1.block _ (by have := HSV.out; omega)).trans HV0.out
  have v1 := (b1.block (w.heap.size + 1) (by have := HSV.out; omega)).trans HV1.out
  clear c0 c1 c2 c3 c4 z HC1
  obtain ⟨⟨c0, c1, c2, c3, c4⟩, z⟩ := box5 v0
  have q2 := z 2
  have s2 := set_at (i := 2) v0 r1
  have S1 := hid_of (And.intro v0 v1)
  have N1 := hid_of (nr_set (i := 2) n1 (b := w.heap.size) (by have := HSV.out; omega) r1)
  have B1 := hid_of (bset (i := 2) (FRow.bel HBV.out b1 (Nat.le_refl _)) (b := w.heap.size) (Nat.le_refl _) r1)
  have HC2 := hid_of (cloneFRow (w := w1.setCell ⟨w.heap.size, 2, none⟩ r1) (v := b) (l := xf) (h2.below B1.out) f2)
  have HS2 := hid_of s2
  clear v0 v1 s2 n1 b1 z
  obtain ⟨ra, rc, rfl, _⟩ := N1.out.shape
  go_wp2_with fail
  refine HC2.out.mono ?_
  rintro e w2 ⟨r2, rfl, n2, b2⟩
  have sz1 : w.heap.size + 2 ≤ w1.heap.size := by have h := (lt_of S1.out.2); omega
  have v0 := (b2.block w.heap.size (by rw [size_set]; omega)).trans HS2.out
  have v1 := ((b2.block (w.heap.size + 1) (by rw [size_set]; omega)).trans (set_ne (by omega) _)).trans S1.out.2
  clear c0 c1 c2 c3 c4 q2 HC2
  obtain ⟨⟨c0, c1, c2, c3, c4⟩, z⟩ := box5 v0
  have q3 := z 3
  have s3 := set_at (i := 3) v0 r2
  have S2 := hid_of (And.intro v0 v1)
  have N2 := hid_of (And.intro (nr_set (i := 3) (N1.out.below b2) (b := w.heap.size) (by have := HSV.out; omega) r2) (row_set (i := 3) n2 (b := w.heap.size) (by rw [size_set]; omega) r2))
  have B2 := hid_of (bset (i := 3) (FRow.bel B1.out b2 (Nat.le_refl _)) (b := w.heap.size) (Nat.le_refl _) r2)
  have HC3 := hid_of (cloneERow (w := w2.setCell ⟨w.heap.size, 3, none⟩ r2) (v := c) (l := xr) (h3.below B2.out) f3)
  have HS3 := hid_of s3
  have SZ2 : Hid (w1.heap.size ≤ w2.heap.size) := hid_of (by have := b2.size; rwa [size_set] at this)
  obtain ⟨ra2, rc2, rfl⟩ := shapeFRow n2
  clear v0 v1 s3 n2 b2 z
  go_wp2_with fail
  refine HC3.out.mono ?_
  rintro e w3 ⟨r3, rfl, n3, b3⟩
  have sz2 : w.heap.size + 2 ≤ w2.heap.size := by have := SZ2.out; omega
  have v0 := (b3.block w.heap.size (by rw [size_set]; omega)).trans HS3.out
  have v1 := ((b3.block (w.heap.size + 1) (by rw [size_set]; omega)).trans (set_ne (by omega) _)).trans S2.out.2
  clear c0 c1 c2 c3 c4 q3 HC3
  obtain ⟨⟨c0, c1, c2, c3, c4⟩, z⟩ := box5 v0
  obtain ⟨⟨d0, d1, d2, d3, d4⟩, y⟩ := box5 v1
  have q4 := z 4
  have y0 := y 0
  have y1 := y 1
  have y2 := y 2
  have y3 := y 3
  have y4 := y 4
  have S3 := hid_of (And.intro v0 v1)
  have N3 := hid_of (And.intro (N2.out.1.below b3) (And.intro (FRow.row_below N2.out.2 b3) n3))
  have B3 := hid_of (FRow.bel B2.out b3 (Nat.le_refl _))
  have SZ3 : Hid (w2.heap.size ≤ w3.heap.size) := hid_of (by have := b3.size; rwa [size_set] at this)
  obtain ⟨ra3, rc3, rfl⟩ := shapeERow n3
  clear v0 v1 n3 b3 z y
  go_wp2_with fail
  have t1 : (w3.setCell ⟨w.heap.size, 4, none⟩ (.slice ra3 xr.length rc3)).heap[w.heap.size + 1]? = _ := (set_ne (by omega) _).trans S3.out.2
  obtain ⟨⟨g0, g1, g2, g3, g4⟩, _⟩ := box5 (set5 t1 (.int .i64 xk) (.string (mk xt)) (.slice ra xl.length rc) (.slice ra2 xf.length rc2) (.slice ra3 xr.length rc3))
  refine ⟨rfl, .agg #[.int .i64 xk, .string (mk xt), .slice ra xl.length rc, .slice ra2 xf.length rc2, .slice ra3 xr.length rc3], ?_, _, rfl, ⟨_, _, _, rfl, fin_nr N3.out.1 (by have := HSV.out; omega), fin_row N3.out.2.1 (by have := HSV.out; rw [size_set]; omega), fin_row N3.out.2.2 (by rw [size_set]; omega)⟩, fin_b B3.out⟩
  simp [results, Tryz.results13, go_sem, g0, g1, g2, g3, g4]
end Go.Proofs.YtminfpkigenahaaGreatDoor.Copy
end
section
namespace Go.Proofs.YtminfpkigenahaaGreatDoor.Stray
open Go.RowKit Go.Maps
open Go.Proofs.YtminfpkigenahaaGreatDoor.ValueMath
open Go.Proofs.YtminfpkigenahaaGreatDoor.Base
open Go.Proofs.YtminfpkigenahaaGreatDoor.Vals
open Go.Proofs.YtminfpkigenahaaGreatDoor.Check0
set_option linter.unusedVariables false
set_option linter.unusedSimpArgs false
set_option maxHeartbeats 4000000 in
set_option maxRecDepth 100000 in
theorem stray_raw (k : Int) (hk : k = 1 ∨ k = 2 ∨ k = 3 ∨ k = 4 ∨ k = 5) (X : ByteArray) (aa ba ca : Option Addr) (an bn cn ac bc cc : Nat) (bt bl bf br : Bool) (ht : X.toList.isEmpty = !bt) (ha : decide ((0 : Int) < (an : Int)) = bl) (hb : decide ((0 : Int) < (bn : Int)) = bf) (hc : decide ((0 : Int) < (cn : Int)) = br) (ha' : decide (0 < an) = bl) (hb' : decide (0 < bn) = bf) (hc' : decide (0 < cn) = br) (w : World) :
    Calls Tryz.prog 32 #[.agg #[.int .i64 k, .string X, .slice aa an ac, .slice ba bn bc, .slice ca cn cc]] w fun e w' => e = .returned (.bool (strB k bt bl bf br)) ∧ Below w.heap.size w w' := by
  rcases hk with rfl | rfl | rfl | rfl | rfl <;> cases bt <;> cases bl <;> cases bf <;> cases br
  all_goals
    simp only [Bool.not_true, Bool.not_false] at ht
    go_enter Tryz.func32, Tryz.ntmps32
    go_wp2
    go_ret
    exact ⟨rfl, FRow.bnew w _⟩
end Go.Proofs.YtminfpkigenahaaGreatDoor.Stray
end
