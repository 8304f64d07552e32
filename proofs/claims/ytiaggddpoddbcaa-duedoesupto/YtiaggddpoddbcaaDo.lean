/- One deed with both. -/
import Derived.Test.YtiaggddpoddbcaaBoth
import Derived.Test.YtiaggddpoddbcaaAwake
import Derived.Deep.RegionHeld3
namespace Go.Proofs.Ytiaggddpoddbcaa.Do
open Go.RowKit Go.Maps Go.Shelf
open Go.Proofs.Ytiaggddpoddbcaa.HeapMath
open Go.Proofs.Ytiaggddpoddbcaa.Heap
open Go.Proofs.Ytiaggddpoddbcaa.Turn
open Go.Proofs.Ytiaggddpoddbcaa.Before
open Go.Proofs.Ytiaggddpoddbcaa.RowB
open Go.Proofs.Ytiaggddpoddbcaa.Spots
open Go.Proofs.Ytiaggddpoddbcaa.ThingS
open Go.Proofs.Ytiaggddpoddbcaa.IndexS
open Go.Proofs.Ytiaggddpoddbcaa.SetS
open Go.Proofs.Ytiaggddpoddbcaa.Peek
open Go.Proofs.Ytiaggddpoddbcaa.PeekS
open Go.Proofs.Ytiaggddpoddbcaa.Take
open Go.Proofs.Ytiaggddpoddbcaa.NewS
open Go.Proofs.Ytiaggddpoddbcaa.RefP
open Go.Proofs.Ytiaggddpoddbcaa.RefT
open Go.Proofs.Ytiaggddpoddbcaa.RefD
open Go.Proofs.Ytiaggddpoddbcaa.RefS
open Go.Proofs.Ytiaggddpoddbcaa.SortM
open Go.Proofs.Ytiaggddpoddbcaa.Both
set_option linter.unusedVariables false
set_option linter.unusedSimpArgs false
theorem rset_late {y : Nat} {w : World} (k : Bs) (tick : Int) (h : tick < 0 ∨ 9007199254740992 < tick) : Calls Try.prog 30 #[ptr y, .string (mk k), .int .i64 tick] w fun e w' => e = .returned (.int .i64 70) ∧ w' = w := by
  unfold ptr
  rcases h with h | h
  · go_enter Try.func30, Try.ntmps30
    go_wp2_with fail
    go_ret
    exact ⟨rfl, rfl⟩
  · have h2 : ¬ tick < 0 := by omega
    go_enter Try.func30, Try.ntmps30
    go_wp2_with fail
    go_ret
    exact ⟨rfl, rfl⟩
/- behind a call with the index, and behind both -/
theorem PR.oy {base b y : Nat} {s S T : Es} {w w' : World} (h : PR base b y w s S) (o : Oy y w w') (r : RY y w' T) (t : Sorted ltS s T) : PR base b y w' s T := by
  obtain ⟨v, h1, h2⟩ := h.ry
  exact ⟨ix_oy h.ix h1 o, r, t, h.one⟩
/- the program's Set, beside the list -/
theorem set_pr {base b y : Nat} {s S : Es} {w : World} (h : PR base b y w s S) (key : Bs) (hk : key.length ≤ 281474976710656) (t : Int) (ht : 0 ≤ t) (ht2 : t ≤ 9007199254740992) (hs : s.length + 1 < 1099511627776) :
    Calls Try.prog 27 #[ptr b, .string (mk key), .int .i64 t] w fun e w' => e = .returned (.int .i64 0) ∧ (∃ s', Sorted ltS s' (ins (key, t) (without S key)) ∧ Once s' ∧ s'.length ≤ s.length + 1 ∧ IX base b w' s') ∧ RY y w' S ∧ Ev PT base w w' := by
  refine (set_call h.ix key hk t ht ht2 hs).mono ?_
  rintro e w' ⟨rfl, ⟨s', g, i⟩, v⟩
  have q := set_sorted h.srt h.one g
  refine ⟨rfl, ⟨s', q.1, q.2, ?_, i⟩, h.ry.ev v, ev_wide v⟩
  rcases g with ⟨x, s0, _, hp, hq⟩ | ⟨_, hq⟩
  · have a := hp.length_eq
    have c := hq.length_eq
    simp at a c
    omega
  · have c := hq.length_eq
    simp at c
    omega
abbrev dv (k : Int) (key : Bs) (n m : Int) : Value := .agg #[.int .i64 k, .string (mk key), .int .i64 n, .int .i64 m]
abbrev dc (k : Int) (key : Bs) (n m : Int) : Obj := .cells #[.int .i64 k, .string (mk key), .int .i64 n, .int .i64 m] 32
theorem dc_at {k n m : Int} {key : Bs} {base : Nat} {w U : World} (e : Ev PT base (w.alloc (dc k key n m)) U) : (U.cell? ⟨w.heap.size, 0, none⟩ = some (.int .i64 k) ∧ U.cell? ⟨w.heap.size, 1, none⟩ = some (.string (mk key)) ∧ U.cell? ⟨w.heap.size, 2, none⟩ = some (.int .i64 n) ∧ U.cell? ⟨w.heap.size, 3, none⟩ = some (.int .i64 m)) := by
  have h0 : (w.alloc (dc k key n m)).heap[w.heap.size]? = some (dc k key n m) := by
    show (w.heap.push _)[w.heap.size]? = _
    exact Array.getElem?_push_size
  have h1 : U.heap[w.heap.size]? = some (dc k key n m) := (e.block _ (lt_of h0) (.inr (by rw [kd_cells h0]; rfl))).trans h0
  exact ⟨Lib.cell_of_heap h1 0, Lib.cell_of_heap h1 1, Lib.cell_of_heap h1 2, Lib.cell_of_heap h1 3⟩
theorem ry_ev {base y : Nat} {S T : Es} {w w' : World} (hb : base ≤ y) (h : RY y w S) (o : Oy y w w') (r : RY y w' T) : Ev PT base w w' := by
  obtain ⟨v, h1, h2⟩ := h
  obtain ⟨v', r1, r2⟩ := r
  exact oy_wide o hb h1 r1
theorem fin_set {base b y N : Nat} {S T : Es} {w w' : World} (h : (∃ s', Sorted ltS s' T ∧ Once s' ∧ s'.length ≤ N ∧ IX base b w s') ∧ RY y w S) (o : Oy y w w') (r : RY y w' T) : ∃ s' S', PR base b y w' s' S' ∧ s'.length ≤ N := by
  obtain ⟨⟨s', h1, h2, h3, h4⟩, v, h5, h6⟩ := h
  exact ⟨s', T, ⟨ix_oy h4 h5 o, r, h1, h2⟩, h3⟩
theorem ry_len {base b y : Nat} {s S : Es} {w : World} (h : PR base b y w s S) : S.length = s.length := h.srt.perm.length_eq
set_option maxHeartbeats 4000000 in
set_option maxRecDepth 100000 in
theorem do_set {base b y : Nat} {s S : Es} {w : World} (h : PR base b y w s S) (hb : base ≤ y) (hs : s.length + 1 < 1099511627776) (k : Int) (hk : k = 0 ∨ k = 1) (key : Bs) (hkey : key.length ≤ 281474976710656) (n m : Int) (ht : 0 ≤ n) (ht2 : n ≤ 9007199254740992) :
    Calls Try.prog 10 #[ptr b, ptr y, dv k key n m] w fun e w' => e = .returned (.bool true) ∧ (∃ s' S', PR base b y w' s' S' ∧ s'.length ≤ s.length + 1) ∧ Ev PT base w w' := by
  have B0 : Below w.heap.size w (w.alloc (dc k key n m)) := (Below.refl _ w).alloc (Nat.le_refl _) _
  have HW := hid_of (Ev.of_below (T := PT) (base := base) B0)
  have HX := hid_of (fun (U : World) (e : Ev PT base (w.alloc (dc k key n m)) U) => dc_at e)
  have K := hid_of (And.intro ((h.below B0).below (Below.refl _ _).drew) (Ev.refl PT base (w.alloc (dc k key n m))).drew)
  have H1 := hid_of (fun (U : World) (p : PR base b y U s S) => set_pr p key hkey n ht ht2 hs)
  have H2 := hid_of (fun (U : World) (p : RY y U S) => rset_ry p (by have := ry_len h; omega) key n ht ht2)
  clear B0 h
  unfold ptr dv at *
  rcases hk with rfl | rfl
  all_goals
    go_enter Try.func10, Try.ntmps10
    go_wp2_with fail
    go_region_held3 (fun U => (U.cell? ⟨w.heap.size, 1, none⟩ = some (.string (mk key)) ∧ U.cell? ⟨w.heap.size, 2, none⟩ = some (.int .i64 n) ∧ U.cell? ⟨w.heap.size, 3, none⟩ = some (.int .i64 m)))
      (exact (HX.out _ K.out.2).2)
      (first
      | (go_at_call 27; refine (H1.out _ K.out.1).mono ?_; rintro e U1 ⟨rfl, q1, q2, q3⟩; have K := hid_of (And.intro (And.intro q1 q2) (K.out.2.trans q3)); clear q1 q2 q3)
      | (go_at_call 30; refine (H2.out _ K.out.1.2).mono ?_; rintro e U2 ⟨rfl, q1, q2⟩; have K := hid_of (And.intro (fin_set K.out.1 q1 q2) (K.out.2.trans (ry_ev hb K.out.1.2 q1 q2))); clear q1 q2))
  all_goals go_wp2_with fail
  all_goals go_ret
  all_goals exact ⟨rfl, K.out.1, HW.out.trans K.out.2⟩
theorem drop_pr {base b y : Nat} {s S : Es} {w : World} (h : PR base b y w s S) (key : Bs) (hk : key.length ≤ 281474976710656) :
    Calls Try.prog 28 #[ptr b, .string (mk key)] w fun e w' => e = .returned (.bool (decide ((without S key).length < S.length))) ∧ (∃ s', Sorted ltS s' (without S key) ∧ Once s' ∧ s'.length ≤ s.length + 1 ∧ IX base b w' s') ∧ RY y w' S ∧ Ev PT base w w' := by
  refine (drop_call h.ix key hk).mono ?_
  rintro e w' ⟨q, rfl, hq, v⟩
  refine ⟨?_, ?_, h.ry.ev v, ev_wide v⟩
  · rcases hq with ⟨rfl, x, s', hx, hp, _⟩ | ⟨rfl, hno, _⟩
    · rw [decide_eq_true (drop_sorted h.srt h.one hx hp).2.2]
    · rw [drop_none h.srt hno, decide_eq_false (Nat.lt_irrefl _)]
  · rcases hq with ⟨rfl, x, s', hx, hp, i⟩ | ⟨rfl, hno, i⟩
    · have a := drop_sorted h.srt h.one hx hp
      have c := hp.length_eq
      simp at c
      exact ⟨s', a.1, a.2.1, by omega, i⟩
    · exact ⟨s, by rw [drop_none h.srt hno]; exact h.srt, h.one, by omega, i⟩
theorem take_pr {base b y : Nat} {s S : Es} {w : World} (h : PR base b y w s S) (hs : s.length + 1 < 1099511627776) (now most : Int) :
    Calls Try.prog 23 #[ptr b, .int .i64 now, .int .i64 most] w fun e w' => ∃ v, e = .returned v ∧ w'.ownsRow w.heap.size 9 1 v (got S now most).length ((keysOf (got S now most)).map sv) ∧ ((∃ s', Sorted ltS s' (S.drop (got S now most).length) ∧ Once s' ∧ s'.length ≤ s.length + 1 ∧ IX base b w' s') ∧ RY y w' S) ∧ Ev PT base w w' := by
  refine (take_call h.ix h.srt hs now most).mono ?_
  rintro e w' ⟨v, rfl, r, i, q⟩
  have a := take_sorted h.srt h.one (got S now most).length
  have c := ry_len h
  exact ⟨v, rfl, r, ⟨⟨_, a.1, a.2, by rw [List.length_drop]; omega, i⟩, h.ry.ev q⟩, ev_wide q⟩
theorem row_oy {W W' : World} {B n y : Nat} {v : Value} {xs : List Value} {S : Es} (h : W.ownsRow B 9 1 v n xs) (r : RY y W S) (o : Oy y W W') : W'.ownsRow B 9 1 v n xs := by
  obtain ⟨v0, hy, _⟩ := r
  refine ⟨h.1, h.2.imp id ?_⟩
  rintro ⟨g, cap, cur, e, hb, hg, k⟩
  refine ⟨g, cap, cur, e, hb, (o.block g (lt_of hg) fun q => ?_).trans hg, k⟩
  subst q
  rw [hy] at hg
  cases hg
theorem texts_same {base : Nat} {v1 v2 : Value} {G : Es} {w : World} {B1 B2 : Nat} (h1 : w.ownsRow B1 9 1 v1 G.length ((keysOf G).map sv)) (h2 : w.ownsRow B2 9 1 v2 G.length ((keysOf G).map sv)) (hl : G.length ≤ 140737488355328) :
    Calls Try.prog 21 #[v1, v2] w fun e w' => e = .returned (.bool true) ∧ Below w.heap.size w w' := by
  have k : (keysOf G).length = G.length := by simp [keysOf]
  refine (texts_call (TS.of_row h1 k.symm) (TS.of_row h2 k.symm) (by omega) (by omega)).mono ?_
  rintro e w' ⟨rfl, m, rfl⟩
  exact ⟨by rw [decide_eq_true rfl], ⟨rfl, rfl, rfl, Nat.le_refl _, fun _ _ => rfl⟩⟩
theorem got_le (S : Es) (now most : Int) : (got S now most).length ≤ S.length := (got_pre S now most).length_le
set_option maxHeartbeats 4000000 in
set_option maxRecDepth 100000 in
theorem do_late {base b y : Nat} {s S : Es} {w : World} (h : PR base b y w s S) (hb : base ≤ y) (hs : s.length + 1 < 1099511627776) (k : Int) (hk : k = 0 ∨ k = 1) (key : Bs) (hkey : key.length ≤ 281474976710656) (n m : Int) (ht : n < 0 ∨ 9007199254740992 < n) :
    Calls Try.prog 10 #[ptr b, ptr y, dv k key n m] w fun e w' => e = .returned (.bool true) ∧ (∃ s' S', PR base b y w' s' S' ∧ s'.length ≤ s.length + 1) ∧ Ev PT base w w' := by
  have B0 : Below w.heap.size w (w.alloc (dc k key n m)) := (Below.refl _ w).alloc (Nat.le_refl _) _
  have HW := hid_of (Ev.of_below (T := PT) (base := base) B0)
  have HX := hid_of (fun (U : World) (e : Ev PT base (w.alloc (dc k key n m)) U) => dc_at e)
  have K := hid_of (And.intro ((h.below B0).below (Below.refl _ _).drew) (Ev.refl PT base (w.alloc (dc k key n m))).drew)
  have H1 := hid_of (fun (U : World) => set_late (b := b) (w := U) key n ht)
  have H2 := hid_of (fun (U : World) => rset_late (y := y) (w := U) key n ht)
  clear B0 h
  unfold ptr dv at *
  rcases hk with rfl | rfl
  all_goals
    go_enter Try.func10, Try.ntmps10
    go_wp2_with fail
    go_region_held3 (fun U => (U.cell? ⟨w.heap.size, 1, none⟩ = some (.string (mk key)) ∧ U.cell? ⟨w.heap.size, 2, none⟩ = some (.int .i64 n) ∧ U.cell? ⟨w.heap.size, 3, none⟩ = some (.int .i64 m)))
      (exact (HX.out _ K.out.2).2)
      (first
      | (go_at_call 27; refine (H1.out _).mono ?_; rintro e U1 ⟨rfl, rfl⟩)
      | (go_at_call 30; refine (H2.out _).mono ?_; rintro e U2 ⟨rfl, rfl⟩))
  all_goals go_wp2_with fail
  all_goals go_ret
  all_goals exact ⟨rfl, ⟨s, S, K.out.1, by omega⟩, HW.out.trans K.out.2⟩
set_option maxHeartbeats 4000000 in
set_option maxRecDepth 100000 in
theorem do_drop {base b y : Nat} {s S : Es} {w : World} (h : PR base b y w s S) (hb : base ≤ y) (hs : s.length + 1 < 1099511627776) (k : Int) (hk : k = 2) (key : Bs) (hkey : key.length ≤ 281474976710656) (n m : Int) :
    Calls Try.prog 10 #[ptr b, ptr y, dv k key n m] w fun e w' => e = .returned (.bool true) ∧ (∃ s' S', PR base b y w' s' S' ∧ s'.length ≤ s.length + 1) ∧ Ev PT base w w' := by
  have B0 : Below w.heap.size w (w.alloc (dc k key n m)) := (Below.refl _ w).alloc (Nat.le_refl _) _
  have HW := hid_of (Ev.of_below (T := PT) (base := base) B0)
  have HX := hid_of (fun (U : World) (e : Ev PT base (w.alloc (dc k key n m)) U) => dc_at e)
  have K := hid_of (And.intro ((h.below B0).below (Below.refl _ _).drew) (Ev.refl PT base (w.alloc (dc k key n m))).drew)
  obtain ⟨Q, hQ⟩ : ∃ Q, Q = decide ((without S key).length < S.length) := ⟨_, rfl⟩
  have H1 := hid_of (fun (U : World) (p : PR base b y U s S) => drop_pr p key hkey)
  have H2 := hid_of (fun (U : World) (p : RY y U S) => rdrop_ry p (by have := ry_len h; omega) key)
  rw [← hQ] at H1 H2
  clear hQ
  clear B0 h
  unfold ptr dv at *
  subst hk
  all_goals
    go_enter Try.func10, Try.ntmps10
    go_wp2_with fail
    go_region_held3 (fun U => (U.cell? ⟨w.heap.size, 1, none⟩ = some (.string (mk key)) ∧ U.cell? ⟨w.heap.size, 2, none⟩ = some (.int .i64 n) ∧ U.cell? ⟨w.heap.size, 3, none⟩ = some (.int .i64 m)))
      (exact (HX.out _ K.out.2).2)
      (first
      | (go_at_call 28; refine (H1.out _ K.out.1).mono ?_; rintro e U1 ⟨rfl, q1, q2, q3⟩; have K := hid_of (And.intro (And.intro q1 q2) (K.out.2.trans q3)); clear q1 q2 q3)
      | (go_at_call 31; refine (H2.out _ K.out.1.2).mono ?_; rintro e U2 ⟨rfl, q1, q2⟩; have K := hid_of (And.intro (fin_set K.out.1 q1 q2) (K.out.2.trans (ry_ev hb K.out.1.2 q1 q2))); clear q1 q2))
  all_goals go_wp2_with fail
  all_goals go_ret
  all_goals exact ⟨rfl, K.out.1, HW.out.trans K.out.2⟩
theorem pr_more {base b y N : Nat} {w w' : World} (h : ∃ s' S', PR base b y w s' S' ∧ s'.length ≤ N) (q : Below w.heap.size w w') : ∃ s' S', PR base b y w' s' S' ∧ s'.length ≤ N := by
  obtain ⟨s', S', h1, h2⟩ := h
  exact ⟨s', S', h1.below q, h2⟩
theorem row_bel {W W' : World} {B n : Nat} {v : Value} {xs : List Value} (h : W.ownsRow B 9 1 v n xs) (o : Below W.heap.size W W') : W'.ownsRow B 9 1 v n xs := by
  refine ⟨h.1, h.2.imp id ?_⟩
  rintro ⟨g, cap, cur, e, hb, hg, k⟩
  exact ⟨g, cap, cur, e, hb, (o.block g (lt_of hg)).trans hg, k⟩
set_option maxHeartbeats 4000000 in
set_option maxRecDepth 100000 in
theorem do_take {base b y : Nat} {s S : Es} {w : World} (h : PR base b y w s S) (hb : base ≤ y) (hs : s.length + 1 < 1099511627776) (k : Int) (hk : k = 3) (key : Bs) (hkey : key.length ≤ 281474976710656) (n m : Int) :
    Calls Try.prog 10 #[ptr b, ptr y, dv k key n m] w fun e w' => e = .returned (.bool true) ∧ (∃ s' S', PR base b y w' s' S' ∧ s'.length ≤ s.length + 1) ∧ Ev PT base w w' := by
  have B0 : Below w.heap.size w (w.alloc (dc k key n m)) := (Below.refl _ w).alloc (Nat.le_refl _) _
  have HW := hid_of (Ev.of_below (T := PT) (base := base) B0)
  have HX := hid_of (fun (U : World) (e : Ev PT base (w.alloc (dc k key n m)) U) => dc_at e)
  have K := hid_of (And.intro ((h.below B0).below (Below.refl _ _).drew) (Ev.refl PT base (w.alloc (dc k key n m))).drew)
  have H1 := hid_of (fun (U : World) (p : PR base b y U s S) => take_pr p hs n m)
  have H2 := hid_of (fun (U : World) (p : RY y U S) => rtake_ry p (by have := ry_len h; omega) n m)
  have H3 := hid_of (fun (U : World) (v1 v2 : Value) (B1 B2 : Nat) (p : U.ownsRow B1 9 1 v1 (got S n m).length ((keysOf (got S n m)).map sv)) (q : U.ownsRow B2 9 1 v2 (got S n m).length ((keysOf (got S n m)).map sv)) => texts_same (base := base) p q (by have := ry_len h; have := got_le S n m; omega))
  clear B0 h
  unfold ptr dv at *
  subst hk
  all_goals
    go_enter Try.func10, Try.ntmps10
    go_wp2_with fail
    go_region_held3 (fun U => (U.cell? ⟨w.heap.size, 1, none⟩ = some (.string (mk key)) ∧ U.cell? ⟨w.heap.size, 2, none⟩ = some (.int .i64 n) ∧ U.cell? ⟨w.heap.size, 3, none⟩ = some (.int .i64 m)))
      (exact (HX.out _ K.out.2).2)
      (first
      | (go_at_call 23; refine (H1.out _ K.out.1).mono ?_; rintro e U1 ⟨v1, rfl, q1, q2, q3⟩; have K := hid_of (And.intro (And.intro q2 q1) (K.out.2.trans q3)); clear q1 q2 q3)
      | (go_at_call 32; refine (H2.out _ K.out.1.1.2).mono ?_; rintro e U2 ⟨v2, rfl, q0, q1, q2⟩; have K := hid_of (And.intro (And.intro (fin_set K.out.1.1 q1 q2) (And.intro (row_oy K.out.1.2 K.out.1.1.2 q1) q0)) (K.out.2.trans (ry_ev hb K.out.1.1.2 q1 q2))); clear q0 q1 q2)
      | (go_at_call 21; refine (H3.out _ _ _ _ _ K.out.1.2.1 K.out.1.2.2).mono ?_; rintro e U3 ⟨rfl, q1⟩; have K := hid_of (And.intro (pr_more K.out.1.1 q1) (K.out.2.trans (Ev.of_below q1))); clear q1))
  all_goals go_wp2_with fail
  all_goals go_ret
  all_goals exact ⟨rfl, K.out.1, HW.out.trans K.out.2⟩
theorem pr_some {base b y : Nat} {s S : Es} {w : World} (h : PR base b y w s S) : ∃ s' S', PR base b y w s' S' ∧ s'.length ≤ s.length + 1 := ⟨s, S, h, by omega⟩
theorem rpeek_ry {y : Nat} {S : Es} {w : World} (h : RY y w S) (hl : S.length < 1099511627776) (now most : Int) :
    Calls Try.prog 22 #[ptr y, .int .i64 now, .int .i64 most] w fun e w' => ∃ r, e = .returned r ∧ w'.ownsRow w.heap.size 9 1 r (got S now most).length ((keysOf (got S now most)).map sv) ∧ Below w.heap.size w w' := by
  obtain ⟨v, h1, h2⟩ := h
  exact rpeek_call (Lib.cell_of_heap h1 0) h2 hl now most
set_option maxHeartbeats 4000000 in
set_option maxRecDepth 100000 in
theorem do_peek {base b y : Nat} {s S : Es} {w : World} (h : PR base b y w s S) (hb : base ≤ y) (hs : s.length + 1 < 1099511627776) (k : Int) (hk0 : ¬ k = 0) (hk1 : ¬ k = 1) (hk2 : ¬ k = 2) (hk3 : ¬ k = 3) (key : Bs) (hkey : key.length ≤ 281474976710656) (n m : Int) :
    Calls Try.prog 10 #[ptr b, ptr y, dv k key n m] w fun e w' => e = .returned (.bool true) ∧ (∃ s' S', PR base b y w' s' S' ∧ s'.length ≤ s.length + 1) ∧ Ev PT base w w' := by
  have B0 : Below w.heap.size w (w.alloc (dc k key n m)) := (Below.refl _ w).alloc (Nat.le_refl _) _
  have HW := hid_of (Ev.of_below (T := PT) (base := base) B0)
  have HX := hid_of (fun (U : World) (e : Ev PT base (w.alloc (dc k key n m)) U) => dc_at e)
  have K := hid_of (And.intro ((h.below B0).below (Below.refl _ _).drew) (Ev.refl PT base (w.alloc (dc k key n m))).drew)
  have H1 := hid_of (fun (U : World) (p : PR base b y U s S) => peek_call p.ix p.srt hs n m)
  have H2 := hid_of (fun (U : World) (p : RY y U S) => rpeek_ry p (by have := ry_len h; omega) n m)
  have H3 := hid_of (fun (U : World) (v1 v2 : Value) (B1 B2 : Nat) (p : U.ownsRow B1 9 1 v1 (got S n m).length ((keysOf (got S n m)).map sv)) (q : U.ownsRow B2 9 1 v2 (got S n m).length ((keysOf (got S n m)).map sv)) => texts_same (base := base) p q (by have := ry_len h; have := got_le S n m; omega))
  clear B0 h
  unfold ptr dv at *
  all_goals
    go_enter Try.func10, Try.ntmps10
    go_wp2_with fail
    go_region_held3 (fun U => (U.cell? ⟨w.heap.size, 1, none⟩ = some (.string (mk key)) ∧ U.cell? ⟨w.heap.size, 2, none⟩ = some (.int .i64 n) ∧ U.cell? ⟨w.heap.size, 3, none⟩ = some (.int .i64 m)))
      (exact (HX.out _ K.out.2).2)
      (first
      | (go_at_call 20; refine (H1.out _ K.out.1).mono ?_; rintro e U1 ⟨v1, rfl, q1, q3⟩; have K := hid_of (And.intro (And.intro (K.out.1.below q3) q1) (K.out.2.trans (Ev.of_below q3))); clear q1 q3)
      | (go_at_call 22; refine (H2.out _ K.out.1.1.ry).mono ?_; rintro e U2 ⟨v2, rfl, q0, q1⟩; have K := hid_of (And.intro (And.intro (pr_some (K.out.1.1.below q1)) (And.intro (row_bel K.out.1.2 q1) q0)) (K.out.2.trans (Ev.of_below q1))); clear q0 q1)
      | (go_at_call 21; refine (H3.out _ _ _ _ _ K.out.1.2.1 K.out.1.2.2).mono ?_; rintro e U3 ⟨rfl, q1⟩; have K := hid_of (And.intro (pr_more K.out.1.1 q1) (K.out.2.trans (Ev.of_below q1))); clear q1))
  all_goals go_wp2_with fail
  all_goals go_ret
  all_goals exact ⟨rfl, K.out.1, HW.out.trans K.out.2⟩
/- any deed -/
theorem do_call {base b y : Nat} {s S : Es} {w : World} (h : PR base b y w s S) (hb : base ≤ y) (hs : s.length + 1 < 1099511627776) (k : Int) (key : Bs) (hkey : key.length ≤ 281474976710656) (n m : Int) :
    Calls Try.prog 10 #[ptr b, ptr y, dv k key n m] w fun e w' => e = .returned (.bool true) ∧ (∃ s' S', PR base b y w' s' S' ∧ s'.length ≤ s.length + 1) ∧ Ev PT base w w' := by
  by_cases h0 : k = 0 ∨ k = 1
  · by_cases h1 : 0 ≤ n ∧ n ≤ 9007199254740992
    · exact do_set h hb hs k h0 key hkey n m h1.1 h1.2
    · exact do_late h hb hs k h0 key hkey n m (by omega)
  by_cases h2 : k = 2
  · exact do_drop h hb hs k h2 key hkey n m
  by_cases h3 : k = 3
  · exact do_take h hb hs k h3 key hkey n m
  exact do_peek h hb hs k (fun e => h0 (.inl e)) (fun e => h0 (.inr e)) h2 h3 key hkey n m
end Go.Proofs.Ytiaggddpoddbcaa.Do
