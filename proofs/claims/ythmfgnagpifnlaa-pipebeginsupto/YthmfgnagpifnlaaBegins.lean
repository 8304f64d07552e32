/- PipeBegins, walked. -/
import Derived.Test.YthmfgnagpifnlaaApart2
import Derived.Test.YthmfgnagpifnlaaBeginM
namespace Go.Proofs.Ythmfgnagpifnlaa.Begins
open Go.RowKit
open Go.Proofs.Ythmfgnagpifnlaa.PipeMath
open Go.Proofs.Ythmfgnagpifnlaa.Base
open Go.Proofs.Ythmfgnagpifnlaa.Queue
open Go.Proofs.Ythmfgnagpifnlaa.Queue2
open Go.Proofs.Ythmfgnagpifnlaa.Net
open Go.Proofs.Ythmfgnagpifnlaa.Connect
open Go.Proofs.Ythmfgnagpifnlaa.Calls
open Go.Proofs.Ythmfgnagpifnlaa.Calls3
open Go.Proofs.Ythmfgnagpifnlaa.Sure
open Go.Proofs.Ythmfgnagpifnlaa.Line
open Go.Proofs.Ythmfgnagpifnlaa.Done
open Go.Proofs.Ythmfgnagpifnlaa.Ops
open Go.Proofs.Ythmfgnagpifnlaa.Apart
open Go.Proofs.Ythmfgnagpifnlaa.Apart2
set_option linter.unusedVariables false

set_option maxHeartbeats 2000000 in
set_option maxRecDepth 100000 in
theorem law_bad (c : Int) (hc : c < 1 ∨ 1048576 < c) (v : Value) (w : World) : Calls Try.prog 5 #[.int .i64 c, v] w fun e w' => e = .returned (.bool true) ∧ Below w.heap.size w w' := by
  have A := hid_of (fun W => new_no c hc W)
  have H8 := hid_of (fun W => fit_call c W)
  rw [if_pos hc] at H8
  have S := hid_of sure_call
  clear hc
  go_enter Try.func5, Try.ntmps5
  go_wp2_with fail
  refine (A.out _).mono ?_
  rintro e w1 ⟨rfl, rfl⟩
  go_wp2_with fail
  refine (H8.out _).mono ?_
  rintro e w3 ⟨rfl, rfl⟩
  go_wp2_with fail
  refine (S.out _).mono ?_
  rintro e w4 ⟨rfl, b4⟩
  go_wp2_with fail
  go_ret
  exact ⟨rfl, b4⟩
def FX (B p q : Nat) : Nat → Prop := fun k => B ≤ k ∧ k ≠ p ∧ k ≠ q
def arr (R : Nat → Bs) : Array Value := #[.string (mk (R 0)), .string (mk (R 1)), .string (mk (R 2)), .string (mk (R 3)), .string (mk (R 4)), .string (mk (R 5)), .string (mk (R 6)), .string (mk (R 7))]
theorem arr_at (R : Nat → Bs) (c : Nat) (h : c < 8) : (arr R)[c]? = some (.string (mk (R c))) := by
  match c, h with
  | 0, _ => rfl
  | 1, _ => rfl
  | 2, _ => rfl
  | 3, _ => rfl
  | 4, _ => rfl
  | 5, _ => rfl
  | 6, _ => rfl
  | 7, _ => rfl
theorem arr_set (R : Nat → Bs) (c : Nat) (h : c < 8) (t : Bs) : (arr R).setIfInBounds c (.string (mk (R c ++ t))) = arr (up8 R c t) := by
  match c, h with
  | 0, _ => rfl
  | 1, _ => rfl
  | 2, _ => rfl
  | 3, _ => rfl
  | 4, _ => rfl
  | 5, _ => rfl
  | 6, _ => rfl
  | 7, _ => rfl
structure Bg (B p q b : Nat) (n : Nt) (R W : Nat → Bs) (w0 w : World) : Prop where
  has : Has (FX B p q) b n w
  bp : B ≤ p
  pq : p < q
  qs : q < w.heap.size
  a : w.heap[p]? = some (.cells (arr R) 42 (0, 0))
  b : w.heap[q]? = some (.cells (arr W) 42 (0, 0))
  bl : Below B w0 w
theorem Bg.below {B p q b : Nat} {n : Nt} {R W : Nat → Bs} {w0 w w' : World} (h : Bg B p q b n R W w0 w) (e : Below w.heap.size w w') : Bg B p q b n R W w0 w' :=
  ⟨has_keep (G := fun _ => False) h.has (Fr.of_below e) (fun _ _ e => e), h.bp, h.pq, Nat.lt_of_lt_of_le h.qs e.size, (e.block _ (Nat.lt_trans h.pq h.qs)).trans h.a, (e.block _ h.qs).trans h.b, h.bl.trans (e.mono (Nat.le_trans h.bp (Nat.le_of_lt (Nat.lt_trans h.pq h.qs))))⟩
theorem Bg.drewN {B p q b : Nat} {n : Nt} {R W : Nat → Bs} {w0 w : World} (h : Bg B p q b n R W w0 w) (m : Nat) : Bg B p q b n R W w0 (w.drewN m) := h.below ⟨rfl, rfl, rfl, Nat.le_refl _, fun _ _ => rfl⟩
theorem Bg.alloc {B p q b : Nat} {n : Nt} {R W : Nat → Bs} {w0 w : World} (h : Bg B p q b n R W w0 w) (o : Obj) : Bg B p q b n R W w0 (w.alloc o) := h.below ((Below.refl _ w).alloc (Nat.le_refl _) o)
/- a call behind a box -/
theorem Bg.callBox {B p q b : Nat} {n n' : Nt} {R W : Nat → Bs} {w0 w : World} {f : FuncId} {args : Array Value} {P : Ending → Prop} (h : Bg B p q b n R W w0 w) (o : Obj)
    (hc : ∀ F y, NK F b y n (w.alloc o) → Calls Try.prog f args (w.alloc o) fun e w' => P e ∧ Has (Gr F (w.alloc o)) b n' w' ∧ Fr F (w.alloc o) w') : Calls Try.prog f args (w.alloc o) fun e w' => P e ∧ Bg B p q b n' R W w0 w' ∧ w'.heap[w.heap.size]? = some o := by
  obtain ⟨y, h1⟩ := has_low h.has
  have hs : (w.alloc o).heap.size = w.heap.size + 1 := by simp
  have hb : Below w.heap.size w (w.alloc o) := (Below.refl _ w).alloc (Nat.le_refl _) o
  have hB : B ≤ w.heap.size := Nat.le_trans h.bp (Nat.le_of_lt (Nat.lt_trans h.pq h.qs))
  have hq := h.qs
  have hpq := h.pq
  refine (hc _ y (h1.alloc o)).mono fun e w' ⟨p1, q1, f1⟩ => ⟨p1, ⟨has_mono q1 fun k e => ?_, h.bp, h.pq, Nat.lt_of_lt_of_le (Nat.lt_succ_of_lt h.qs) (by have := f1.size; omega), ?_, ?_, ?_⟩, ?_⟩
  · rcases e with e | e
    · exact e.1
    · exact ⟨by omega, by omega, by omega⟩
  · rw [f1.block p (by omega) (fun e => e.1.2.1 rfl)]
    exact (hb.block _ (by omega)).trans h.a
  · rw [f1.block q (by omega) (fun e => e.1.2.2 rfl)]
    exact (hb.block _ (by omega)).trans h.b
  · exact (h.bl.trans (hb.mono hB)).trans (f1.below (by omega) fun k e => e.1.1)
  · rw [f1.block w.heap.size (by omega) (fun e => by have := e.2; omega)]
    exact heap_alloc_new w o
/- one text of each row has grown -/
theorem bg_put {B p q b : Nat} {n : Nt} {R W : Nat → Bs} {w0 w : World} (h : Bg B p q b n R W w0 w) {c : Nat} (hc : c < 8) (r x : Bs) : Bg B p q b n (up8 R c r) (up8 W c x) w0 ((w.setCell ⟨p, c, none⟩ (.string (mk (R c ++ r)))).setCell ⟨q, c, none⟩ (.string (mk (W c ++ x)))) := by
  have e1 := set_at (i := c) h.a (.string (mk (R c ++ r)))
  have e2 : (w.setCell ⟨p, c, none⟩ (.string (mk (R c ++ r)))).heap[q]? = some (.cells (arr W) 42 (0, 0)) := (set_ne (by have := h.pq; omega) _).trans h.b
  have hB : B ≤ w.heap.size := Nat.le_trans h.bp (Nat.le_of_lt (Nat.lt_trans h.pq h.qs))
  have fr : Fr (fun k => k = p ∨ k = q) w ((w.setCell ⟨p, c, none⟩ (.string (mk (R c ++ r)))).setCell ⟨q, c, none⟩ (.string (mk (W c ++ x)))) := (Fr.set (Or.inl rfl) _).trans (Fr.set (Or.inl (Or.inr rfl)) _)
  refine ⟨has_keep h.has fr (fun k e e2 => e2.elim e.2.1 e.2.2), h.bp, h.pq, by rw [size_set, size_set]; exact h.qs, ?_, ?_, h.bl.trans (fr.below hB fun k e => ?_)⟩
  · rw [set_ne (by have := h.pq; omega), e1, arr_set R c hc r]
  · rw [set_at e2, arr_set W c hc x]
  · have := h.bp
    have := h.pq
    rcases e with e | e <;> omega
structure BJ (N B p q b : Nat) (l : List POp) (k : Nat) (w wr : World) : Prop where
  ex : ∃ n R W, Bg B p q b n R W w wr ∧ Ok n ∧ BI n R W ∧ Big n (dt (l.take k)) ∧ (∀ c, (W c).length ≤ dt (l.take k)) ∧ n.win = N
theorem did_win (n : Nt) (o : PipeMath.Op) : (n.did o).win = n.win := by
  by_cases h0 : o.kind = 0
  · unfold Nt.did
    rw [if_pos h0]
    unfold Nt.connect
    split <;> rfl
  · by_cases h5 : o.kind = 5
    · unfold Nt.did
      rw [if_neg h0, h5]
      simp only [show ¬ (5 : Int) = 1 by decide, show ¬ (5 : Int) = 2 by decide, show ¬ (5 : Int) = 3 by decide, show ¬ (5 : Int) = 4 by decide, if_false, if_true]
      unfold Nt.accept
      split <;> rfl
    · rcases did_form n o h0 h5 with ⟨f, e⟩ | e
      · rw [e]; exact (mod_win n o.conn f).1
      · rw [e]
theorem bj_step {N B p q b : Nat} {l : List POp} {k : Nat} {w wr wx : World} {n : Nt} {R W : Nat → Bs} {kd cn nm : Int} {d : Bs} {c : Nat} (hk : k < l.length) (ho : l[k] = ⟨kd, cn, nm, d⟩) (hc : c < 8)
    (hx : Bg B p q b (n.did ⟨kd, (c : Int), nm, d⟩) R W w wx) (ok : Ok n) (bi : BI n R W) (bg : Big n (dt (l.take k))) (wl : ∀ c, (W c).length ≤ dt (l.take k)) (hw : n.win = N)
    (lk : Lk ((wx.setCell ⟨p, c, none⟩ (.string (mk (R c ++ n.gotR ⟨kd, (c : Int), nm, d⟩)))).setCell ⟨q, c, none⟩ (.string (mk (W c ++ n.gotW ⟨kd, (c : Int), nm, d⟩)))) wr) : BJ N B p q b l (k + 1) w wr := by
  have e1 : dt (l.take (k + 1)) = dt (l.take k) + d.length := by rw [dt_take l k hk, ho]
  refine ⟨_, _, _, (bg_put hx hc _ _).below ⟨lk.os, lk.tape, lk.output, by rw [lk.heap]; exact Nat.le_refl _, fun i _ => by rw [lk.heap]⟩, did_ok ok _, bi.did ok kd nm c d, ?_, ?_, ?_⟩
  · rw [e1]; exact did_big bg ⟨kd, (c : Int), nm, d⟩
  · rw [e1]; exact up8_len wl c _ (gotW_len n ⟨kd, (c : Int), nm, d⟩)
  · rw [did_win]; exact hw
theorem mk_app (a b : Bs) : mk (a ++ b) = mk a ++ mk b := by
  apply of_bs
  show a ++ b = (mk a ++ mk b).data.toList
  simp [mk]
theorem ask {B p q b : Nat} {n : Nt} {R W : Nat → Bs} {w0 w : World} {f : FuncId} {args : Array Value} {Q : Ending → World → Prop} (h : Bg B p q b n R W w0 w) (hc : ∀ F y, NK F b y n w → Calls Try.prog f args w Q) : Calls Try.prog f args w Q := by
  obtain ⟨y, h1⟩ := h.has
  exact hc _ y h1
theorem bg0 {B p q N : Nat} {l : List POp} {w w1 w2 : World} (h1 : 1 ≤ N) (h2 : N ≤ 1048576) (hh : Has (fun k => k = B) B (new N) w1) (l1 : Below B w w1) (hl : B < w1.heap.size) (hp : p = w1.heap.size) (hq : q = w1.heap.size + 1) (e2 : w2 = (w1.alloc (.cells (arr fun _ => []) 42)).alloc (.cells (arr fun _ => []) 42)) : BJ N B p q B l 0 w w2 := by
  have b2 : Below w1.heap.size w1 w2 := by rw [e2]; exact ((Below.refl _ w1).alloc (Nat.le_refl _) _).alloc (by simp) _
  refine ⟨new N, fun _ => [], fun _ => [], ⟨has_keep (G := fun _ => False) (has_mono hh fun k e => ?_) (Fr.of_below b2) (fun _ _ e => e), ?_, ?_, ?_, ?_, ?_, l1.trans (b2.mono (Nat.le_of_lt hl))⟩, new_ok h1 h2, bi_new N, ⟨fun k hk => by simp [new] at hk⟩, fun _ => Nat.zero_le _, rfl⟩
  · have e : k = B := e
    exact ⟨by omega, by omega, by omega⟩
  · omega
  · omega
  · rw [e2, hq]; simp
  · rw [e2, hp, Below.heap_alloc _ _ _ (by simp)]
    exact heap_alloc_new w1 _
  · rw [e2, hq]
    have := heap_alloc_new (w1.alloc (.cells (arr fun _ => []) 42)) (.cells (arr fun _ => []) 42)
    rw [show (w1.alloc (.cells (arr fun _ => []) 42)).heap.size = w1.heap.size + 1 by simp] at this
    exact this
set_option maxHeartbeats 8000000 in
set_option maxRecDepth 100000 in
theorem law_good (N : Nat) (h1 : 1 ≤ N) (h2 : N ≤ 1048576) (a0 : Option Addr) (cap : Nat) (l : List POp) (w : World) (hO : OpSl w (.slice a0 l.length cap) l) (hwt : wt l ≤ 1048576) : Calls Try.prog 5 #[.int .i64 (N : Int), .slice a0 l.length cap] w fun e w' => e = .returned (.bool true) ∧ Below w.heap.size w w' := by
  have A := hid_of (fun W => new_yes N h1 h2 W)
  have S := hid_of sure_call
  obtain ⟨B, hB⟩ : ∃ B, B = w.heap.size := ⟨_, rfl⟩
  have HB := hid_of hB
  have hlen := Nat.le_trans (wt_len l) hwt
  have hdt := Nat.le_trans (dt_le l) hwt
  have HO : Hid (l = [] ∨ ∃ g o, a0 = some ⟨g, o, none⟩ ∧ g < B ∧ OpAt w g o l) := by
    obtain ⟨a, cp, e, h⟩ := hO
    cases e
    rcases h with h | ⟨g, o, e, hc⟩
    · exact Or.inl h
    · by_cases hl : l = []
      · exact Or.inl hl
      · refine Or.inr ⟨g, o, e, ?_, hc⟩
        have hp : 0 < l.length := List.length_pos_iff.2 hl
        have := World.block_lt_of_cell? w _ (hc 0 hp).1
        rw [hB]; exact this
  have HD := hid_of hdt
  have HW := hid_of (And.intro h1 h2)
  clear hO hdt hwt
  rw [← hB]
  clear hB h1 h2
  go_enter Try.func5, Try.ntmps5
  go_wp2_with fail
  refine (A.out _).mono ?_
  rintro e w1 ⟨rfl, q1, l1⟩
  have L1 : Hid (w.heap.size < w1.heap.size) := has_lt q1
  have Q1 := hid_of (And.intro q1 l1)
  clear q1 l1
  rw [← HB.out]
  go_wp2_with fail
  obtain ⟨p, hp⟩ : ∃ p, p = w1.heap.size := ⟨_, rfl⟩
  obtain ⟨q, hq⟩ : ∃ q, q = w1.heap.size + 1 := ⟨_, rfl⟩
  obtain ⟨V, hV⟩ : ∃ V, V = (w1.alloc (.cells #[.string ⟨#[]⟩, .string ⟨#[]⟩, .string ⟨#[]⟩, .string ⟨#[]⟩, .string ⟨#[]⟩, .string ⟨#[]⟩, .string ⟨#[]⟩, .string ⟨#[]⟩] 42)).alloc (.cells #[.string ⟨#[]⟩, .string ⟨#[]⟩, .string ⟨#[]⟩, .string ⟨#[]⟩, .string ⟨#[]⟩, .string ⟨#[]⟩, .string ⟨#[]⟩, .string ⟨#[]⟩] 42) := ⟨_, rfl⟩
  have X0 : Hid (BJ N B p q B l 0 w V) := bg0 (w1 := w1) HW.out.1 HW.out.2 (by have := Q1.out.1; rw [← HB.out] at this; exact this) (by have := Q1.out.2; rw [← HB.out] at this; exact this) (by have := L1.out; rw [← HB.out] at this; exact this) hp hq hV
  rw [← hV, ← hq, ← hp]
  clear hV hp hq
  go_loopg [9] l.length (fun g s9 wx => ∃ k : Nat, k ≤ l.length ∧ l.length ≤ k + g ∧ s9 = .int .i64 k ∧ Hid (BJ N B p q B l k w wx))
  case atStart => exact ⟨0, by omega, by omega, rfl, X0⟩
  case round =>
    obtain ⟨k, hk, hg, rfl, R0⟩ := hrel
    by_cases hlt : k < l.length
    · obtain ⟨g', rfl⟩ : ∃ g', gk = g' + 1 := ⟨gk - 1, by omega⟩
      have hor : ∃ g o, a0 = some ⟨g, o, none⟩ ∧ g < B ∧ OpAt w g o l := by
        rcases HO.out with h | h
        · rw [h] at hlt; simp at hlt
        · exact h
      obtain ⟨sq, o, rfl, hsq, hop⟩ := hor
      obtain ⟨n, R, W, T, ok, bi, bg, wl, hw⟩ := R0.out.ex
      have hopr := op_later hop (T.bl.block sq hsq) k hlt
      obtain ⟨c0, c1, c2, c3⟩ := hopr
      obtain ⟨kd, cn, nm, s, hop2⟩ : ∃ kd cn nm s, l[k] = ⟨kd, cn, nm, bs s⟩ := ⟨_, _, _, mk (l[k]).data, rfl⟩
      rw [hop2] at c0 c1 c2 c3
      dsimp only at c0 c1 c2 c3
      rw [mk_bs] at c3
      have gi : ((k : Int)) < (l.length : Int) := by omega
      have hss : dt (l.take k) + s.size ≤ 1048576 := by
        have h1 := dt_take l k hlt
        have h2 := dt_le_all l (k + 1)
        have h3 := HD.out
        rw [hop2] at h1
        dsimp only at h1
        rw [len_bs] at h1
        omega
      have HK := hid_of hop2
      clear hop hop2
      rcases (show cn < 0 ∨ (¬ cn < 0 ∧ 7 < cn) ∨ ∃ c : Nat, cn = (c : Int) ∧ c < 8 by
        by_cases h0 : cn < 0
        · exact Or.inl h0
        · by_cases h7 : 7 < cn
          · exact Or.inr (Or.inl ⟨h0, h7⟩)
          · exact Or.inr (Or.inr ⟨cn.toNat, by omega, by omega⟩)) with hA | ⟨hA, hA2⟩ | ⟨c, rfl, hc8⟩
      · have D1 := hid_of (T.callBox (.cells #[.int .i64 kd, .int .i64 0, .int .i64 nm, .string s] 35) fun F y q => done_call q kd 0 nm s (dt (l.take k)) bg (by omega))
        obtain ⟨r, hr⟩ : ∃ r, r = mk (n.gotR ⟨kd, 0, nm, bs s⟩) := ⟨_, rfl⟩
        obtain ⟨x, hx⟩ : ∃ x, x = mk (n.gotW ⟨kd, 0, nm, bs s⟩) := ⟨_, rfl⟩
        have hrl : r.size ≤ 1048576 := by rw [hr, mk_size]; have := gotR_len bg ⟨kd, 0, nm, bs s⟩; omega
        have hxl : x.size ≤ 1048576 := by rw [hx, mk_size]; have := gotW_len n ⟨kd, 0, nm, bs s⟩; rw [len_bs] at this; omega
        rw [← hr, ← hx] at D1
        have HR : Hid (mk (R 0 ++ n.gotR ⟨kd, 0, nm, bs s⟩) = mk (R 0) ++ r ∧ mk (W 0 ++ n.gotW ⟨kd, 0, nm, bs s⟩) = mk (W 0) ++ x) := ⟨by rw [hr]; exact mk_app _ _, by rw [hx]; exact mk_app _ _⟩
        obtain ⟨u, hu⟩ : ∃ u, u = mk (R 0) := ⟨_, rfl⟩
        obtain ⟨v, hv⟩ : ∃ v, v = mk (W 0) := ⟨_, rfl⟩
        have hul : u.size ≤ 1048576 := by rw [hu, mk_size]; have := bi.rlen bg 0; omega
        have hvl : v.size ≤ 1048576 := by rw [hv, mk_size]; have := wl 0; omega
        rw [← hu, ← hv] at HR
        have HU := hid_of (And.intro hu hv)
        have hpq := T.pq
        have hqs := T.qs
        have hne1 : p ≠ q := by omega
        have hne2 : q ≠ p := by omega
        have hne3 : wr.heap.size ≠ p := by omega
        have hne4 : wr.heap.size ≠ q := by omega
        have hne5 : p ≠ wr.heap.size := by omega
        have hne6 : q ≠ wr.heap.size := by omega
        have TT := hid_of T
        clear T hr hx hu hv hpq hqs
        go_wp2_with fail
        refine D1.out.mono ?_
        rintro e w7 ⟨rfl, t7, hbox⟩
        have d1 : w7.cell? ⟨wr.heap.size, 1, none⟩ = some (.int .i64 0) := Lib.cell_of_heap hbox 1
        have y1 : w7.cell? ⟨p, 0, none⟩ = some (.string u) := by rw [Lib.cell_of_heap t7.a, arr_at R 0 (by omega), HU.out.1]
        have y2 : w7.cell? ⟨q, 0, none⟩ = some (.string v) := by rw [Lib.cell_of_heap t7.b, arr_at W 0 (by omega), HU.out.2]
        have f1 : w7.frozen? ⟨p, 0, none⟩ = false := Lib.frozen_of_heap t7.a _
        have f2 : w7.frozen? ⟨q, 0, none⟩ = false := Lib.frozen_of_heap t7.b _
        have X7 := hid_of t7
        clear t7 hbox
        go_wp2_with fail
        go_region
        go_wp2_with fail
        go_region
        go_wp2_with fail
        go_roundg g'
        case measure => omega
        case rel =>
          refine ⟨k + 1, by omega, by omega, by simp, ?_⟩
          refine bj_step (c := 0) hlt HK.out (by omega) X7.out ok bi bg wl hw ?_
          rw [show n.gotR ⟨kd, ((0 : Nat) : Int), nm, bs s⟩ = n.gotR ⟨kd, 0, nm, bs s⟩ from rfl, show n.gotW ⟨kd, ((0 : Nat) : Int), nm, bs s⟩ = n.gotW ⟨kd, 0, nm, bs s⟩ from rfl, HR.out.1, HR.out.2]
          exact ⟨rfl, rfl, rfl, rfl⟩

      · have D1 := hid_of (T.callBox (.cells #[.int .i64 kd, .int .i64 7, .int .i64 nm, .string s] 35) fun F y q => done_call q kd 7 nm s (dt (l.take k)) bg (by omega))
        obtain ⟨r, hr⟩ : ∃ r, r = mk (n.gotR ⟨kd, 7, nm, bs s⟩) := ⟨_, rfl⟩
        obtain ⟨x, hx⟩ : ∃ x, x = mk (n.gotW ⟨kd, 7, nm, bs s⟩) := ⟨_, rfl⟩
        have hrl : r.size ≤ 1048576 := by rw [hr, mk_size]; have := gotR_len bg ⟨kd, 7, nm, bs s⟩; omega
        have hxl : x.size ≤ 1048576 := by rw [hx, mk_size]; have := gotW_len n ⟨kd, 7, nm, bs s⟩; rw [len_bs] at this; omega
        rw [← hr, ← hx] at D1
        have HR : Hid (mk (R 7 ++ n.gotR ⟨kd, 7, nm, bs s⟩) = mk (R 7) ++ r ∧ mk (W 7 ++ n.gotW ⟨kd, 7, nm, bs s⟩) = mk (W 7) ++ x) := ⟨by rw [hr]; exact mk_app _ _, by rw [hx]; exact mk_app _ _⟩
        obtain ⟨u, hu⟩ : ∃ u, u = mk (R 7) := ⟨_, rfl⟩
        obtain ⟨v, hv⟩ : ∃ v, v = mk (W 7) := ⟨_, rfl⟩
        have hul : u.size ≤ 1048576 := by rw [hu, mk_size]; have := bi.rlen bg 7; omega
        have hvl : v.size ≤ 1048576 := by rw [hv, mk_size]; have := wl 7; omega
        rw [← hu, ← hv] at HR
        have HU := hid_of (And.intro hu hv)
        have hpq := T.pq
        have hqs := T.qs
        have hne1 : p ≠ q := by omega
        have hne2 : q ≠ p := by omega
        have hne3 : wr.heap.size ≠ p := by omega
        have hne4 : wr.heap.size ≠ q := by omega
        have hne5 : p ≠ wr.heap.size := by omega
        have hne6 : q ≠ wr.heap.size := by omega
        have TT := hid_of T
        clear T hr hx hu hv hpq hqs
        go_wp2_with fail
        refine D1.out.mono ?_
        rintro e w7 ⟨rfl, t7, hbox⟩
        have d1 : w7.cell? ⟨wr.heap.size, 1, none⟩ = some (.int .i64 7) := Lib.cell_of_heap hbox 1
        have y1 : w7.cell? ⟨p, 7, none⟩ = some (.string u) := by rw [Lib.cell_of_heap t7.a, arr_at R 7 (by omega), HU.out.1]
        have y2 : w7.cell? ⟨q, 7, none⟩ = some (.string v) := by rw [Lib.cell_of_heap t7.b, arr_at W 7 (by omega), HU.out.2]
        have f1 : w7.frozen? ⟨p, 7, none⟩ = false := Lib.frozen_of_heap t7.a _
        have f2 : w7.frozen? ⟨q, 7, none⟩ = false := Lib.frozen_of_heap t7.b _
        have X7 := hid_of t7
        clear t7 hbox
        go_wp2_with fail
        go_region
        go_wp2_with fail
        go_region
        go_wp2_with fail
        go_roundg g'
        case measure => omega
        case rel =>
          refine ⟨k + 1, by omega, by omega, by simp, ?_⟩
          refine bj_step (c := 7) hlt HK.out (by omega) X7.out ok bi bg wl hw ?_
          rw [show n.gotR ⟨kd, ((7 : Nat) : Int), nm, bs s⟩ = n.gotR ⟨kd, 7, nm, bs s⟩ from rfl, show n.gotW ⟨kd, ((7 : Nat) : Int), nm, bs s⟩ = n.gotW ⟨kd, 7, nm, bs s⟩ from rfl, HR.out.1, HR.out.2]
          exact ⟨rfl, rfl, rfl, rfl⟩

      · have hA : ¬ (c : Int) < 0 := by omega
        have hA2 : ¬ (7 : Int) < (c : Int) := by omega
        have hA3 : (c : Int) < 8 := by omega
        have D1 := hid_of (T.callBox (.cells #[.int .i64 kd, .int .i64 (c : Int), .int .i64 nm, .string s] 35) fun F y q => done_call q kd (c : Int) nm s (dt (l.take k)) bg (by omega))
        obtain ⟨r, hr⟩ : ∃ r, r = mk (n.gotR ⟨kd, (c : Int), nm, bs s⟩) := ⟨_, rfl⟩
        obtain ⟨x, hx⟩ : ∃ x, x = mk (n.gotW ⟨kd, (c : Int), nm, bs s⟩) := ⟨_, rfl⟩
        have hrl : r.size ≤ 1048576 := by rw [hr, mk_size]; have := gotR_len bg ⟨kd, (c : Int), nm, bs s⟩; omega
        have hxl : x.size ≤ 1048576 := by rw [hx, mk_size]; have := gotW_len n ⟨kd, (c : Int), nm, bs s⟩; rw [len_bs] at this; omega
        rw [← hr, ← hx] at D1
        have HR : Hid (mk (R c ++ n.gotR ⟨kd, (c : Int), nm, bs s⟩) = mk (R c) ++ r ∧ mk (W c ++ n.gotW ⟨kd, (c : Int), nm, bs s⟩) = mk (W c) ++ x) := ⟨by rw [hr]; exact mk_app _ _, by rw [hx]; exact mk_app _ _⟩
        obtain ⟨u, hu⟩ : ∃ u, u = mk (R c) := ⟨_, rfl⟩
        obtain ⟨v, hv⟩ : ∃ v, v = mk (W c) := ⟨_, rfl⟩
        have hul : u.size ≤ 1048576 := by rw [hu, mk_size]; have := bi.rlen bg c; omega
        have hvl : v.size ≤ 1048576 := by rw [hv, mk_size]; have := wl c; omega
        rw [← hu, ← hv] at HR
        have HU := hid_of (And.intro hu hv)
        have hpq := T.pq
        have hqs := T.qs
        have hne1 : p ≠ q := by omega
        have hne2 : q ≠ p := by omega
        have hne3 : wr.heap.size ≠ p := by omega
        have hne4 : wr.heap.size ≠ q := by omega
        have hne5 : p ≠ wr.heap.size := by omega
        have hne6 : q ≠ wr.heap.size := by omega
        have TT := hid_of T
        clear T hr hx hu hv hpq hqs
        go_wp2_with fail
        refine D1.out.mono ?_
        rintro e w7 ⟨rfl, t7, hbox⟩
        have d1 : w7.cell? ⟨wr.heap.size, 1, none⟩ = some (.int .i64 (c : Int)) := Lib.cell_of_heap hbox 1
        have y1 : w7.cell? ⟨p, c, none⟩ = some (.string u) := by rw [Lib.cell_of_heap t7.a, arr_at R c (by omega), HU.out.1]
        have y2 : w7.cell? ⟨q, c, none⟩ = some (.string v) := by rw [Lib.cell_of_heap t7.b, arr_at W c (by omega), HU.out.2]
        have f1 : w7.frozen? ⟨p, c, none⟩ = false := Lib.frozen_of_heap t7.a _
        have f2 : w7.frozen? ⟨q, c, none⟩ = false := Lib.frozen_of_heap t7.b _
        have X7 := hid_of t7
        clear t7 hbox
        go_wp2_with fail
        go_region
        go_wp2_with fail
        go_region
        go_wp2_with fail
        go_roundg g'
        case measure => omega
        case rel =>
          refine ⟨k + 1, by omega, by omega, by simp, ?_⟩
          refine bj_step (c := c) hlt HK.out (by omega) X7.out ok bi bg wl hw ?_
          rw [show n.gotR ⟨kd, ((c : Nat) : Int), nm, bs s⟩ = n.gotR ⟨kd, (c : Int), nm, bs s⟩ from rfl, show n.gotW ⟨kd, ((c : Nat) : Int), nm, bs s⟩ = n.gotW ⟨kd, (c : Int), nm, bs s⟩ from rfl, HR.out.1, HR.out.2]
          exact ⟨rfl, rfl, rfl, rfl⟩

    · obtain ⟨n, R, W, T0, ok, bi, bg, wl, hw⟩ := R0.out.ex
      have gi : ¬ ((k : Int)) < (l.length : Int) := by omega
      have hd1 : dt (l.take k) ≤ 1048576 := by have := dt_le_all l k; have := HD.out; omega
      have Y0 := hid_of T0
      clear T0
      go_wp2_with fail
      go_loopg [13] 8 (fun g s13 wx => ∃ j : Nat, j ≤ 8 ∧ 8 ≤ j + g ∧ s13 = .int .i64 j ∧ Hid (Bg B p q B n R W w wx))
      case atStart => exact ⟨0, by omega, by omega, rfl, Y0⟩
      case round =>
        obtain ⟨j, hj, hg2, rfl, Y⟩ := hrel
        by_cases hlt2 : j < 8
        · obtain ⟨g', rfl⟩ : ∃ g', gk = g' + 1 := ⟨gk - 1, by omega⟩
          have gj : ((j : Int)) < 8 := by omega
          have gj0 : (0 : Int) ≤ (j : Int) := by omega
          have za : ∀ k, n.at (j : Int) = some k → k.wrote.length ≤ 140737488355328 ∧ k.sent.length ≤ 140737488355328 := fun k e => by have := bg.at e; omega
          have LA := hid_of (ask Y.out (f := 15) (args := #[ptr B, .int .i64 (j : Int)]) fun F y q => line_call q (j : Int) za)
          have SA := hid_of (fun X (T : Bg B p q B n R W w X) => ask T (f := 17) (args := #[ptr B, .int .i64 (j : Int)]) fun F y q => sent_call q (j : Int))
          have TA := hid_of (fun X (T : Bg B p q B n R W w X) => ask T (f := 18) (args := #[ptr B, .int .i64 (j : Int)]) fun F y q => taken_call q (j : Int))
          have CA := hid_of (fun X (T : Bg B p q B n R W w X) => ask T (f := 13) (args := #[ptr B]) fun F y q => conns_call q)
          obtain ⟨e1, e2⟩ := bi.ends j
          obtain ⟨st, hst⟩ : ∃ st, st = mk (n.sentA (j : Int)) := ⟨_, rfl⟩
          obtain ⟨tk, htk⟩ : ∃ tk, tk = mk (n.taken (j : Int)) := ⟨_, rfl⟩
          obtain ⟨u, hu⟩ : ∃ u, u = mk (R j) := ⟨_, rfl⟩
          obtain ⟨v, hv⟩ : ∃ v, v = mk (W j) := ⟨_, rfl⟩
          have hvl : v.size ≤ 1048576 := by rw [hv, mk_size]; have := wl j; omega
          have hul : u.size ≤ 1048576 := by rw [hu, mk_size]; have := bi.rlen bg j; omega
          have hsl : st.size ≤ 1048576 := by
            rw [hst, mk_size]
            unfold Nt.sentA
            cases hx : n.at (j : Int) with
            | none => exact Nat.zero_le _
            | some k => have := (bg.at hx).1; show k.sent.length ≤ _; omega
          have htl : tk.size ≤ 1048576 := by rw [htk, mk_size]; have := e2.length_le; have := wl j; omega
          have G1 := hid_of (fun X => begins_yes u st (by rw [hu, hst]; exact e1) X (by omega) (by omega))
          have G2 := hid_of (fun X => begins_yes tk v (by rw [htk, hv]; exact e2) X (by omega) (by omega))
          rw [← hst] at SA
          rw [← htk] at TA
          have HUV := hid_of (And.intro hu (And.intro hv htk))
          clear hst htk hu hv e1 e2 za
          rcases (show (n.at (j : Int) = none ∧ (n.cs.length : Int) ≤ (j : Int)) ∨ ∃ kk, n.at (j : Int) = some kk ∧ (j : Int) < (n.cs.length : Int) by
            rcases at_cases n (j : Int) with ⟨h1, h2⟩ | ⟨i, kk, e, hi, _, h1⟩
            · exact Or.inl ⟨h1, by omega⟩
            · exact Or.inr ⟨kk, h1, by omega⟩) with ⟨hx, hcl⟩ | ⟨kk, hx, hcl⟩
          · have eA : lineV n (j : Int) = .agg #[.int .i64 0, .int .i64 0, .bool false, .bool false, .bool false, .bool false] ∧ lineE n (j : Int) = 60 := by unfold lineV lineE line0; rw [hx]; exact ⟨rfl, rfl⟩
            rw [eA.1, eA.2] at LA
            have g1 : decide ((N : Int) < 0) = false := decide_eq_false (by omega)
            have g2 : decide ((n.cs.length : Int) ≤ (j : Int)) = true := decide_eq_true hcl
            have g2n : decide (n.cs.length ≤ j) = true := decide_eq_true (by omega)
            clear eA hx hcl
            go_wp2_with fail
            refine LA.out.mono ?_
            rintro e w7 ⟨rfl, b7⟩
            have Y7 := hid_of ((Y.out.below b7).alloc (.cells #[.int .i64 0, .int .i64 0, .bool false, .bool false, .bool false, .bool false] 46))
            clear b7
            go_wp2_with fail
            obtain ⟨V, hV⟩ : ∃ V, V = w7.alloc (.cells #[.int .i64 0, .int .i64 0, .bool false, .bool false, .bool false, .bool false] 46) := ⟨_, rfl⟩
            have x1 : V.cell? ⟨w7.heap.size, 1, none⟩ = some (.int .i64 0) := by rw [hV]; exact Lib.cell_of_heap (heap_alloc_new w7 _) 1
            rw [← hV] at Y7 ⊢
            clear hV
            have y1 : V.cell? ⟨p, j, none⟩ = some (.string u) := by rw [Lib.cell_of_heap Y7.out.a, arr_at R j hlt2, HUV.out.1]
            have y2 : V.cell? ⟨q, j, none⟩ = some (.string v) := by rw [Lib.cell_of_heap Y7.out.b, arr_at W j hlt2, HUV.out.2.1]
            go_quiet ((first | (go_at_call 17; exact Calls.quiet_of_same (SA.out (V.drewN _) (Y7.out.drewN _))) | (go_at_call 18; exact Calls.quiet_of (TA.out (V.drewN _) (Y7.out.drewN _))) | (go_at_call 13; exact Calls.quiet_of_same (CA.out (V.drewN _) (Y7.out.drewN _))) | (go_at_call_of 16 (Value.string u); exact Calls.quiet_of_same (G1.out _)) | (go_at_call_of 16 (Value.string tk); exact Calls.quiet_of_same (G2.out _))))
            go_wp2_with fail
            go_quiet (fail)
            go_wp2_with fail
            go_roundg g'
            case measure => omega
            case rel => exact ⟨j + 1, by omega, by omega, by simp, Y7.out.drewN _⟩
          · have okk := ok.at hx
            have hwin := okk.win
            rw [hw] at hwin
            have eA : lineV n (j : Int) = .agg #[.int .i64 ((if kk.shut then 0 else kk.unread : Nat) : Int), .int .i64 (kk.left : Int), .bool false, .bool kk.closed, .bool kk.ended, .bool kk.cut] ∧ lineE n (j : Int) = 0 := by unfold lineV lineE lineC; rw [hx]; exact ⟨rfl, rfl⟩
            rw [eA.1, eA.2] at LA
            obtain ⟨U, hU⟩ : ∃ U : Int, U = ((if kk.shut then 0 else kk.unread : Nat) : Int) := ⟨_, rfl⟩
            obtain ⟨L, hL⟩ : ∃ L, L = kk.left := ⟨_, rfl⟩
            rw [← hU, ← hL] at LA
            rw [← hL] at hwin
            have g1 : decide ((N : Int) < (L : Int)) = false := decide_eq_false (by omega)
            have g3 : decide ((L : Int) < 0) = false := decide_eq_false (by omega)
            have g2 : decide ((n.cs.length : Int) ≤ (j : Int)) = false := decide_eq_false (by omega)
            have g2n : decide (n.cs.length ≤ j) = false := decide_eq_false (by omega)
            have g1n : decide (N < L) = false := decide_eq_false (by omega)
            cases hcut : kk.cut
            · have hsum : tk.size + L = v.size := by
                have := took_all bi ok j hx hcut
                rw [HUV.out.2.2, HUV.out.2.1, mk_size, mk_size, hL]
                exact this
              have g4 : IntKind.i64.wrap ((tk.size : Int) + (L : Int)) = (v.size : Int) := by rw [IntWalk.i64_in _ (by omega)]; omega
              rw [hcut] at LA
              clear eA hx hcl hU hL hwin okk hcut hsum
              go_wp2_with fail
              refine LA.out.mono ?_
              rintro e w7 ⟨rfl, b7⟩
              have Y7 := hid_of ((Y.out.below b7).alloc (.cells #[.int .i64 U, .int .i64 (L : Int), .bool false, .bool kk.closed, .bool kk.ended, .bool false] 46))
              clear b7
              go_wp2_with fail
              obtain ⟨V, hV⟩ : ∃ V, V = w7.alloc (.cells #[.int .i64 U, .int .i64 (L : Int), .bool false, .bool kk.closed, .bool kk.ended, .bool false] 46) := ⟨_, rfl⟩
              have x1 : V.cell? ⟨w7.heap.size, 1, none⟩ = some (.int .i64 (L : Int)) := by rw [hV]; exact Lib.cell_of_heap (heap_alloc_new w7 _) 1
              have x5 : V.cell? ⟨w7.heap.size, 5, none⟩ = some (.bool false) := by rw [hV]; exact Lib.cell_of_heap (heap_alloc_new w7 _) 5
              rw [← hV] at Y7 ⊢
              clear hV
              have y1 : V.cell? ⟨p, j, none⟩ = some (.string u) := by rw [Lib.cell_of_heap Y7.out.a, arr_at R j hlt2, HUV.out.1]
              have y2 : V.cell? ⟨q, j, none⟩ = some (.string v) := by rw [Lib.cell_of_heap Y7.out.b, arr_at W j hlt2, HUV.out.2.1]
              go_quiet ((first | (go_at_call 17; exact Calls.quiet_of_same (SA.out (V.drewN _) (Y7.out.drewN _))) | (go_at_call 18; exact Calls.quiet_of (TA.out (V.drewN _) (Y7.out.drewN _))) | (go_at_call 13; exact Calls.quiet_of_same (CA.out (V.drewN _) (Y7.out.drewN _))) | (go_at_call_of 16 (Value.string u); exact Calls.quiet_of_same (G1.out _)) | (go_at_call_of 16 (Value.string tk); exact Calls.quiet_of_same (G2.out _))))
              obtain ⟨V2, hV2⟩ : ∃ V2, V2 = V.drewN nq := ⟨_, rfl⟩
              have Y8 := hid_of (Y7.out.drewN nq)
              have x12 : V2.cell? ⟨w7.heap.size, 1, none⟩ = some (.int .i64 (L : Int)) := by rw [hV2]; exact x1
              have x52 : V2.cell? ⟨w7.heap.size, 5, none⟩ = some (.bool false) := by rw [hV2]; exact x5
              have y22 : V2.cell? ⟨q, j, none⟩ = some (.string v) := by rw [hV2]; exact y2
              rw [← hV2] at Y8 ⊢
              clear hV2 x1 x5 y1 y2 Y7
              go_wp2_with fail
              go_quiet ((go_at_call 18; exact Calls.quiet_of (TA.out (V2.drewN _) (Y8.out.drewN _))))
              go_wp2_with fail
              go_roundg g'
              case measure => omega
              case rel => exact ⟨j + 1, by omega, by omega, by simp, Y8.out.drewN _⟩
            · rw [hcut] at LA
              clear eA hx hcl hU hL hwin okk hcut
              go_wp2_with fail
              refine LA.out.mono ?_
              rintro e w7 ⟨rfl, b7⟩
              have Y7 := hid_of ((Y.out.below b7).alloc (.cells #[.int .i64 U, .int .i64 (L : Int), .bool false, .bool kk.closed, .bool kk.ended, .bool true] 46))
              clear b7
              go_wp2_with fail
              obtain ⟨V, hV⟩ : ∃ V, V = w7.alloc (.cells #[.int .i64 U, .int .i64 (L : Int), .bool false, .bool kk.closed, .bool kk.ended, .bool true] 46) := ⟨_, rfl⟩
              have x1 : V.cell? ⟨w7.heap.size, 1, none⟩ = some (.int .i64 (L : Int)) := by rw [hV]; exact Lib.cell_of_heap (heap_alloc_new w7 _) 1
              have x5 : V.cell? ⟨w7.heap.size, 5, none⟩ = some (.bool true) := by rw [hV]; exact Lib.cell_of_heap (heap_alloc_new w7 _) 5
              rw [← hV] at Y7 ⊢
              clear hV
              have y1 : V.cell? ⟨p, j, none⟩ = some (.string u) := by rw [Lib.cell_of_heap Y7.out.a, arr_at R j hlt2, HUV.out.1]
              have y2 : V.cell? ⟨q, j, none⟩ = some (.string v) := by rw [Lib.cell_of_heap Y7.out.b, arr_at W j hlt2, HUV.out.2.1]
              go_quiet ((first | (go_at_call 17; exact Calls.quiet_of_same (SA.out (V.drewN _) (Y7.out.drewN _))) | (go_at_call 18; exact Calls.quiet_of (TA.out (V.drewN _) (Y7.out.drewN _))) | (go_at_call 13; exact Calls.quiet_of_same (CA.out (V.drewN _) (Y7.out.drewN _))) | (go_at_call_of 16 (Value.string u); exact Calls.quiet_of_same (G1.out _)) | (go_at_call_of 16 (Value.string tk); exact Calls.quiet_of_same (G2.out _))))
              go_wp2_with fail
              go_quiet (fail)
              go_wp2_with fail
              go_roundg g'
              case measure => omega
              case rel => exact ⟨j + 1, by omega, by omega, by simp, Y7.out.drewN _⟩
        · have gj : ¬ ((j : Int)) < 8 := by omega
          go_wp2_with fail
          refine (S.out _).mono ?_
          rintro e w8 ⟨rfl, b8⟩
          have B8 := hid_of b8
          clear b8
          go_wp2_with fail
          go_ret
          have hlow : B ≤ wr.heap.size := Nat.le_trans Y.out.bp (Nat.le_of_lt (Nat.lt_trans Y.out.pq Y.out.qs))
          exact ⟨rfl, Y.out.bl.trans (B8.out.mono hlow)⟩
theorem law_call (c : Int) (a0 : Option Addr) (cap : Nat) (l : List POp) (w : World) (hO : OpSl w (.slice a0 l.length cap) l) (hwt : wt l ≤ 1048576) : Calls Try.prog 5 #[.int .i64 c, .slice a0 l.length cap] w fun e w' => e = .returned (.bool true) ∧ Below w.heap.size w w' := by
  by_cases h : c < 1 ∨ 1048576 < c
  · exact law_bad c h _ w
  · obtain ⟨N, rfl⟩ : ∃ N : Nat, c = (N : Int) := ⟨c.toNat, by omega⟩
    exact law_good N (by omega) (by omega) a0 cap l w hO hwt
end Go.Proofs.Ythmfgnagpifnlaa.Begins
