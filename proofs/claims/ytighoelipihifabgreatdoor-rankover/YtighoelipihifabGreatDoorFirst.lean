/- The first entry of a tree; how many at its beginning are so. -/
import Derived.Test.YtighoelipihifabGreatDoorSettle
import Derived.Shelf.Abstract
namespace Go.Proofs.YtighoelipihifabGreatDoor.First
open Go.RowKit Go.Maps Go.Sort
open Go.Proofs.YtighoelipihifabGreatDoor.MapMath
open Go.Proofs.YtighoelipihifabGreatDoor.RankMath
open Go.Proofs.YtighoelipihifabGreatDoor.RankMath2
open Go.Proofs.YtighoelipihifabGreatDoor.RankMath3
open Go.Proofs.YtighoelipihifabGreatDoor.Base
open Go.Proofs.YtighoelipihifabGreatDoor.Cmp
open Go.Proofs.YtighoelipihifabGreatDoor.Tree
open Go.Proofs.YtighoelipihifabGreatDoor.Piece
open Go.Proofs.YtighoelipihifabGreatDoor.Settle
set_option linter.unusedVariables false

theorem neq_nil (a : Addr) (w : World) : (binOp .neq 49 (.pointer (some a)) (.pointer none)).run Tryz.prog w = .ok (.bool true) w := by kernel_rfl
theorem neq_nil0 (w : World) : (binOp .neq 49 (.pointer none) (.pointer none)).run Tryz.prog w = .ok (.bool false) w := by kernel_rfl
theorem zero_sc (w : World) : (zeroValue 35).run Tryz.prog w = .ok (.agg #[.string ⟨#[]⟩, .int .i64 0]) w := by kernel_rfl
set_option maxHeartbeats 4000000 in
set_option maxRecDepth 100000 in
theorem first_call (t : T) (x : Ent) (L : EL) (w : World) (h : Tr w t) (ht : t.list = x :: L) : Calls Tryz.prog 73 #[t.ptr] w fun e w' => e = .returned (eV x) ∧ Below w.heap.size w w' := by
  have HT := hid_of h
  have HX := hid_of ht
  obtain ⟨V, hV⟩ : ∃ V, V = w.alloc (.cells #[.string ⟨#[]⟩, .int .i64 0] 35) := ⟨_, rfl⟩
  have HV := hid_of hV
  have bV : Below w.heap.size w V := by rw [hV]; exact bnew w _
  have z0 : V.cell? ⟨w.heap.size, 0, none⟩ = some (.string ⟨#[]⟩) := by rw [hV]; simp
  have z1 : V.cell? ⟨w.heap.size, 1, none⟩ = some (.int .i64 0) := by rw [hV]; simp
  have y0 : V.frozen? ⟨w.heap.size, 0, none⟩ = false := by rw [hV]; simp
  have y1 : V.frozen? ⟨w.heap.size, 1, none⟩ = false := by rw [hV]; simp
  have HBV := hid_of bV
  clear h ht hV bV
  unfold T.ptr
  go_enter Tryz.func73, Tryz.ntmps73
  go_wp2_with fail
  rw [← HV.out]
  go_loopg [0] t.list.length (fun g s0 wx => ∃ (s : T) (b : Nat), s0 = .pointer (some ⟨b, 0, none⟩) ∧ Hid (s.addr = some ⟨b, 0, none⟩ ∧ s.list.length ≤ g ∧ Tr w s ∧ s.list.head? = some x) ∧ wx = V)
  case atStart =>
    cases t with
    | nil => exact absurd HX.out (by show ¬ ([] : EL) = x :: L; simp)
    | node b l e r => exact ⟨.node b l e r, b, rfl, ⟨rfl, Nat.le_refl _, HT.out, by rw [HX.out]; rfl⟩, rfl⟩
  case round =>
    obtain ⟨s, b, rfl, HS, hwx⟩ := hrel
    cases s with
    | nil => exact absurd HS.out.1 (by show ¬ (none : Option Addr) = _; simp)
    | node b' l e r =>
      have hbb : b' = b := by have := HS.out.1; injection this with this; injection this
      subst hbb
      have hnb : w.heap[b']? = some (nB e ((l.list.length + 1 + r.list.length : Nat) : Int) l.ptr r.ptr) := HS.out.2.2.1.1
      obtain ⟨c0, c1, c2, c3, c4⟩ := node_c ((HBV.out.block b' (lt_of hnb)).trans hnb)
      clear hnb
      cases l with
      | nil =>
        have he : e = x := by have h0 : (e :: r.list).head? = some x := HS.out.2.2.2; simpa using h0
        subst he
        have c3' : V.cell? ⟨b', 3, none⟩ = some (.pointer none) := c3
        have hq := neq_nil0
        clear c3
        subst hwx
        have HE := hid_of (show eV e = .agg #[.string (mk e.1), .int .i64 e.2] from rfl)
        generalize mk e.1 = X at *
        generalize e.2 = xx at *
        go_wp2_with fail
        have hW : wr.heap[w.heap.size]? = some (.cells #[.string ⟨#[]⟩, .int .i64 0] 35 (0, 0)) := by rw [HV.out]; exact heap_alloc_new w _
        have hW2 := set_at (i := 1) (set_at (i := 0) hW (.string X)) (.int .i64 xx)
        have f0 := Lib.cell_of_heap hW2 0
        have f1 := Lib.cell_of_heap hW2 1
        refine ⟨rfl, .agg #[.string X, .int .i64 xx], ?_, by rw [HE.out], (HBV.out.setCell (Nat.le_refl _) _).setCell (Nat.le_refl _) _⟩
        simp [results, Tryz.results73, go_sem, f0, f1]
      | node b2 l2 e2 r2 =>
        have c3' : V.cell? ⟨b', 3, none⟩ = some (.pointer (some ⟨b2, 0, none⟩)) := c3
        have hq := neq_nil ⟨b2, 0, none⟩
        have hlen := HS.out.2.1
        have e1 : (T.node b' (.node b2 l2 e2 r2) e r).list.length = (T.node b2 l2 e2 r2).list.length + 1 + r.list.length := by show (_ ++ e :: r.list).length = _; simp; omega
        obtain ⟨g', rfl⟩ : ∃ g', gk = g' + 1 := ⟨gk - 1, by omega⟩
        have HS2 : Hid ((T.node b2 l2 e2 r2).addr = some ⟨b2, 0, none⟩ ∧ (T.node b2 l2 e2 r2).list.length ≤ g' ∧ Tr w (T.node b2 l2 e2 r2) ∧ (T.node b2 l2 e2 r2).list.head? = some x) := hid_of ⟨rfl, by omega, HS.out.2.2.1.2.1, by
          have := HS.out.2.2.2
          have e3 : (T.node b' (.node b2 l2 e2 r2) e r).list = (T.node b2 l2 e2 r2).list ++ e :: r.list := rfl
          rw [e3, List.head?_append] at this
          have ne : (T.node b2 l2 e2 r2).list ≠ [] := by show l2.list ++ e2 :: r2.list ≠ []; simp
          cases hh : (T.node b2 l2 e2 r2).list with
          | nil => exact absurd hh ne
          | cons y ys => rw [hh] at this; exact this⟩
        clear c3 HS hlen e1
        subst hwx
        go_wp2_with fail
        go_roundg g'
        case measure => omega
        case rel => exact ⟨_, b2, rfl, HS2, rfl⟩

/- how many at the beginning are so -/
theorem dn_right {L R : EL} {x : Ent} {p : Ent → Bool} (h : Dn p (L ++ x :: R)) : Dn p R := List.Pairwise.sublist ((List.sublist_cons_self x R).trans (List.sublist_append_right L (x :: R))) h
theorem dn_left {L R : EL} {x : Ent} {p : Ent → Bool} (h : Dn p (L ++ x :: R)) : Dn p L := List.Pairwise.sublist (List.sublist_append_left L (x :: R)) h
theorem cnt_yes {L R : EL} {x : Ent} {p : Ent → Bool} (h : Dn p (L ++ x :: R)) (hx : p x = true) : (L ++ x :: R).countP p = L.length + 1 + R.countP p := by
  rw [List.countP_append, List.countP_cons, hx]
  have : L.countP p = L.length := List.countP_eq_length.2 fun y hy => (List.pairwise_append.1 h).2.2 y hy x List.mem_cons_self hx
  rw [this]
  simp
  omega
theorem cnt_no {L R : EL} {x : Ent} {p : Ent → Bool} (h : Dn p (L ++ x :: R)) (hx : p x = false) : (L ++ x :: R).countP p = L.countP p := by
  rw [List.countP_append, List.countP_cons, hx]
  have : R.countP p = 0 := List.countP_eq_zero.2 fun y hy hp => by
    have := (List.pairwise_cons.1 (List.pairwise_append.1 h).2.1).1 y hy hp
    rw [hx] at this
    cases this
  rw [this]
  simp
set_option maxHeartbeats 4000000 in
set_option maxRecDepth 100000 in
theorem lead_call (t : T) (p : Ent → Bool) (g0 : Nat) (cb : Array Value) (w : World) (h : Tr w t) (hd : Dn p t.list) (hn : t.list.length ≤ big)
    (eg : ∀ args w, (callFunc g0 args).run Tryz.prog w = .ok (.enter g0 args) w)
    (hp : ∀ (x : Ent) W, x ∈ t.list → Below w.heap.size w W → Calls Tryz.prog g0 (#[eV x] ++ cb) W fun e w' => e = .returned (.bool (p x)) ∧ Below W.heap.size W w') :
    Calls Tryz.prog 68 #[t.ptr, .func (.func g0) #[] cb] w fun e w' => e = .returned (.int .i64 (t.list.countP p : Int)) ∧ Below w.heap.size w w' := by
  have HT := hid_of h
  have HD := hid_of hd
  have HP := hid_of hp
  have HN := hid_of hn
  clear h hd hp hn
  go_enter Tryz.func68, Tryz.ntmps68
  go_wp2_with fail
  go_loopg [0, 5] t.list.length (fun g s0 sn wx => ∃ (s : T) (A : Option Addr) (n : Nat), s0 = .pointer A ∧ sn = .int .i64 (n : Int) ∧ n + s.list.length ≤ t.list.length ∧ s.list.length ≤ g ∧ Hid (s.addr = A ∧ Tr w s ∧ Dn p s.list ∧ (∀ x ∈ s.list, x ∈ t.list) ∧ n + s.list.countP p = t.list.countP p) ∧ Hid (Below w.heap.size w wx))
  case atStart => exact ⟨t, t.addr, 0, rfl, rfl, by omega, by omega, hid_of ⟨rfl, HT.out, HD.out, fun x hx => hx, by omega⟩, hid_of (Below.refl _ _)⟩
  case round =>
    obtain ⟨s, A, n, rfl, rfl, hns, hsg, HS, HB⟩ := hrel
    cases s with
    | nil =>
      have hA : A = none := HS.out.1.symm
      subst hA
      have hq := neq_nil0
      have HE : Hid (n = t.list.countP p) := hid_of (by have := HS.out.2.2.2.2; exact this)
      go_wp2_with fail
      go_ret
      exact ⟨by rw [← HE.out]; rfl, HB.out⟩
    | node b l x r =>
      have hA : A = some ⟨b, 0, none⟩ := HS.out.1.symm
      subst hA
      have hq := neq_nil ⟨b, 0, none⟩
      have hnb : w.heap[b]? = some (nB x ((l.list.length + 1 + r.list.length : Nat) : Int) l.ptr r.ptr) := HS.out.2.1.1
      have HC : Hid (∀ W, Below w.heap.size w W → W.cell? ⟨b, 0, none⟩ = some (.string (mk x.1)) ∧ W.cell? ⟨b, 1, none⟩ = some (.int .i64 x.2) ∧ W.cell? ⟨b, 2, none⟩ = some (.int .i64 ((l.list.length + 1 + r.list.length : Nat) : Int)) ∧ W.cell? ⟨b, 3, none⟩ = some l.ptr ∧ W.cell? ⟨b, 4, none⟩ = some r.ptr) := hid_of fun W hW => node_c ((hW.block b (lt_of hnb)).trans hnb)
      have e1 : (T.node b l x r).list.length = l.list.length + 1 + r.list.length := by show (l.list ++ x :: r.list).length = _; simp; omega
      obtain ⟨g', rfl⟩ : ∃ g', gk = g' + 1 := ⟨gk - 1, by omega⟩
      have hxm : x ∈ (T.node b l x r).list := List.mem_append.2 (Or.inr List.mem_cons_self)
      have H1 := hid_of (HP.out x wr (HS.out.2.2.2.1 x hxm) HB.out)
      have H2 : Hid (∀ W, Below w.heap.size w W → Calls Tryz.prog 44 #[l.ptr] W fun e w' => e = .returned (.int .i64 (l.list.length : Int)) ∧ w' = W) := hid_of fun W hW => tlen_call l W (HS.out.2.1.2.1.below hW)
      obtain ⟨c0, c1, c2, c3, c4⟩ := HC.out wr HB.out
      obtain ⟨N, hN⟩ : ∃ N, N = l.list.length := ⟨_, rfl⟩
      have hnN : n + (N + 1 + r.list.length) ≤ 9000000000000 := by have := HN.out; unfold big at this; omega
      have e2 : IntKind.i64.wrap ((N : Int) + 1) = (N : Int) + 1 := IntWalk.i64_in _ (by omega)
      have e3 : IntKind.i64.wrap ((n : Int) + ((N : Int) + 1)) = ((n + N + 1 : Nat) : Int) := by rw [show (n : Int) + ((N : Int) + 1) = ((n + N + 1 : Nat) : Int) from by omega]; exact IntWalk.i64_in _ (by omega)
      have hdd : Dn p (l.list ++ x :: r.list) := HS.out.2.2.1
      have hct : n + (l.list ++ x :: r.list).countP p = t.list.countP p := HS.out.2.2.2.2
      have hme : ∀ y ∈ l.list ++ x :: r.list, y ∈ t.list := HS.out.2.2.2.1
      have tl := HS.out.2.1.2.1
      have tr := HS.out.2.1.2.2
      rw [← hN] at H2
      unfold eV at H1
      unfold T.ptr at *
      generalize hLA : l.addr = LA at *
      generalize hRA : r.addr = RA at *
      cases hpx : p x with
      | true =>
        rw [hpx] at H1
        have HR : Hid (r.addr = RA ∧ Tr w r ∧ Dn p r.list ∧ (∀ y ∈ r.list, y ∈ t.list) ∧ (n + N + 1) + r.list.countP p = t.list.countP p) := hid_of ⟨hRA, tr, dn_right hdd, fun y hy => hme y (List.mem_append.2 (Or.inr (List.mem_cons_of_mem _ hy))), by rw [← hct, cnt_yes hdd hpx, hN]; omega⟩
        have hns2 : (n + N + 1) + r.list.length ≤ t.list.length := by omega
        have hsg2 : r.list.length ≤ g' := by omega
        generalize mk x.1 = X at *
        generalize x.2 = xx at *
        clear hnb hN hdd hct hme tl tr hLA hRA hpx hxm e1 hns hsg HS
        go_wp2_with (first | (go_at_fn g0; refine H1.out.mono ?_; rintro e w1 hw1; obtain ⟨rfl, b1⟩ := hw1; have HB1 := hid_of (Base.bel HB.out b1 (Nat.le_refl _)); obtain ⟨d0, d1, d2, d3, d4⟩ := HC.out w1 HB1.out; have H2' := H2.out w1 HB1.out; clear b1) | (go_at_call 44; refine H2'.mono ?_; rintro e w2 hw2; obtain ⟨rfl, rfl⟩ := hw2))
        go_roundg g'
        case measure => omega
        case rel => exact ⟨r, RA, n + N + 1, rfl, rfl, hns2, hsg2, HR, HB1⟩
      | false =>
        rw [hpx] at H1
        have HR : Hid (l.addr = LA ∧ Tr w l ∧ Dn p l.list ∧ (∀ y ∈ l.list, y ∈ t.list) ∧ n + l.list.countP p = t.list.countP p) := hid_of ⟨hLA, tl, dn_left hdd, fun y hy => hme y (List.mem_append.2 (Or.inl hy)), by rw [← hct, cnt_no hdd hpx]⟩
        have hns2 : n + l.list.length ≤ t.list.length := by omega
        have hsg2 : l.list.length ≤ g' := by omega
        generalize mk x.1 = X at *
        generalize x.2 = xx at *
        clear hnb hN hdd hct hme tl tr hLA hRA hpx hxm e1 hns hsg HS
        go_wp2_with (first | (go_at_fn g0; refine H1.out.mono ?_; rintro e w1 hw1; obtain ⟨rfl, b1⟩ := hw1; have HB1 := hid_of (Base.bel HB.out b1 (Nat.le_refl _)); obtain ⟨d0, d1, d2, d3, d4⟩ := HC.out w1 HB1.out; clear b1))
        go_roundg g'
        case measure => omega
        case rel => exact ⟨l, LA, n, rfl, rfl, hns2, hsg2, HR, HB1⟩
end Go.Proofs.YtighoelipihifabGreatDoor.First
