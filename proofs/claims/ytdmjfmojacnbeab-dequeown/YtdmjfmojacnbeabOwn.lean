/- The law DequeOwn. -/
import Derived.Test.YtdmjfmojacnbeabIterN
import Derived.Test.YtdmjfmojacnbeabAwake
import Derived.Test.YtdmjfmojacnbeabAppF
import Derived.Test.YtdmjfmojacnbeabPopS
import Derived.Test.YtdmjfmojacnbeabRef
namespace Go.Proofs.Ytdmjfmojacnbeab.Own
open Go.RowKit Go.Shelf
open Go.Proofs.Ytdmjfmojacnbeab.Base
open Go.Proofs.Ytdmjfmojacnbeab.Held
open Go.Proofs.Ytdmjfmojacnbeab.Nil
open Go.Proofs.Ytdmjfmojacnbeab.IterN
open Go.Proofs.Ytdmjfmojacnbeab.Free
open Go.Proofs.Ytdmjfmojacnbeab.Awake
open Go.Proofs.Ytdmjfmojacnbeab.App
open Go.Proofs.Ytdmjfmojacnbeab.AppF
set_option linter.unusedVariables false
set_option linter.unusedSimpArgs false
attribute [local go_sem] Oper.semAt_some
/-- what stands from the law's beginning on: its own answer's place, and all below -/
structure So (w0 W : World) : Prop where
  bel : Below w0.heap.size w0 W
  rb : W.heap[w0.heap.size]? = some (.cells #[.bool false] 4 (0, 0))
theorem So.read {w0 W W' : World} (h : So w0 W) (k : Below W.heap.size W W') : So w0 W' := ⟨h.bel.trans (k.mono h.bel.size), (k.block _ (lt_of h.rb)).trans h.rb⟩
theorem So.alloc {w0 W : World} (h : So w0 W) (o : Obj) : So w0 (W.alloc o) := h.read ((Below.refl _ W).alloc (Nat.le_refl _) o)
theorem So.start (w : World) : So w (w.alloc (.cells #[.bool false] 4)) := ⟨(Below.refl _ w).alloc (Nat.le_refl _) _, heap_alloc_new w _⟩
theorem ne_nilF (w : World) (B : Nat) : (binOp .neq 37 (.func (.func 39) #[] #[.pointer (some ⟨B, 0, none⟩)]) .nilFunc).run Try.prog w = .ok (.bool true) w := by kernel_rfl
theorem ret_cell (w : World) (p : Nat) (hc : w.cell? ⟨p, 0, none⟩ = some (.bool true)) : ((Sem.run Try.prog (asAddr (Value.pointer (some { block := p, off := 0 }))) w).andThen fun a w' => Sem.run Try.prog (loadVar 4 a) w') = Result.ok (Value.bool true) w := by
  first
    | (simp [asAddr, loadVar, go_sem, hc]; done)
    | (simp [asAddr, loadVar, load, go_sem, Sem.run, hc]; done)
    | (simp [asAddr, loadVar, load, go_sem]; unfold Sem.run; rw [hc]; rfl)
theorem so_own (w0 : World) (B : Nat) (hB : w0.heap.size + 1 ≤ B) : OwnFrom B (fun (pre : List Unit) W => So w0 W) := fun pre W W' row h hg hr => ⟨h.bel.grown hg h.bel.size (fun j hj => by have := (hr j hj).1; omega), (hg.block _ (lt_of h.rb) (fun e => by have := (hr _ e.symm).1; omega)).trans h.rb⟩
/-- the law's world: its answer's place, the mark, the list at b, a list that is kept -/
structure Iq (w0 : World) (D b : Nat) (F Gb : Nat → Prop) (l lb : List El) (vb : Value) (W : World) : Prop where
  so : So w0 W
  mrk : W.heap[D]? = some (.deferred (some []))
  dq : DQ F b l W
  sb : SL Gb W vb lb
theorem Iq.fr {w0 : World} {D b : Nat} {F Gb G : Nat → Prop} {l lb : List El} {vb : Value} {W W' : World} (h : Iq w0 D b F Gb l lb vb W) (f : Fr G W W') (hG : ∀ k, G k → w0.heap.size < k ∧ k ≠ D ∧ ¬ F k ∧ ¬ Gb k) : Iq w0 D b F Gb l lb vb W' :=
  ⟨⟨h.so.bel.trans (f.below h.so.bel.size fun k e => Nat.le_of_lt (hG k e).1), (f.block _ (lt_of h.so.rb) fun e => Nat.lt_irrefl _ (hG _ e).1).trans h.so.rb⟩, (f.block _ (lt_of h.mrk) fun e => (hG _ e).2.1 rfl).trans h.mrk, h.dq.low.keep (fun k hk e => f.block k e.2 fun g => (hG k g).2.2.1 e.1) |>.mono fun k _ e => e.1, h.sb.keep fun k hk e => f.block k hk fun g => (hG k g).2.2.2 e⟩
theorem Iq.read {w0 : World} {D b : Nat} {F Gb : Nat → Prop} {l lb : List El} {vb : Value} {W W' : World} (h : Iq w0 D b F Gb l lb vb W) (k : Below W.heap.size W W') : Iq w0 D b F Gb l lb vb W' := h.fr (Fr.of_below (F := fun _ => False) k) fun _ e => e.elim
/-- a row that may be spoilt -/
def Rz (g n : Nat) (W : World) : Prop := ∃ ys : List El, RowIs W g ys ∧ n ≤ ys.length
theorem Rz.set {g n : Nat} {W : World} (h : Rz g n W) (i : Nat) (x : El) : Rz g n (W.setCell ⟨g, i, none⟩ (V x)) := by
  obtain ⟨ys, h1, h2⟩ := h
  exact ⟨_, h1.set i x, by rw [List.length_set]; exact h2⟩
theorem Rz.get {g n : Nat} {W : World} (h : Rz g n W) (i : Nat) (hi : i < n) : (∃ y, W.cell? ⟨g, i, none⟩ = some (V y)) ∧ W.frozen? ⟨g, i, none⟩ = false := by
  obtain ⟨ys, h1, h2⟩ := h
  exact ⟨⟨_, by rw [h1.cell, List.getElem?_eq_getElem (by omega)]; rfl⟩, h1.frozen i⟩
theorem Rz.fr {g n : Nat} {G : Nat → Prop} {W W' : World} (h : Rz g n W) (f : Fr G W W') (hg : ¬ G g) : Rz g n W' := by
  obtain ⟨ys, h1, h2⟩ := h
  exact ⟨ys, (f.block g h1.lt hg).trans h1, h2⟩
theorem Rz.below {g n : Nat} {W W' : World} (h : Rz g n W) (k : Below W.heap.size W W') : Rz g n W' := h.fr (Fr.of_below (F := fun _ => False) k) fun e => e
theorem rz_of {B n : Nat} {W : World} {a : Option Addr} {c : Nat} {l : List El} (h : NR B W (.slice a l.length c) l) (hn : n = l.length) : n = 0 ∨ ∃ g, a = some ⟨g, 0, none⟩ ∧ Rz g n W ∧ B ≤ g ∧ g < W.heap.size := by
  subst hn
  rcases h with ⟨e, h0⟩ | ⟨g, c', xs, e, hB, hr, hx, hl, ht⟩
  · left; rw [h0]; rfl
  · right
    injection e with e1 e2 e3
    exact ⟨g, e1, ⟨xs, hr, by omega⟩, hB, hr.lt⟩
theorem piece_all (l : List El) : Piece.pieceS l 0 (-1) = l := by
  unfold Piece.pieceS Piece.pcF Piece.pcT Piece.ends
  by_cases h : l = []
  · subst h; simp
  · have hp : 0 < l.length := List.length_pos_iff.2 h
    have e1 : max (if (0 : Int) < 0 then 0 + (l.length : Int) else 0) 0 = 0 := by split <;> omega
    have e2 : min (if (-1 : Int) < 0 then -1 + (l.length : Int) else -1) ((l.length : Int) - 1) = (l.length : Int) - 1 := by split <;> omega
    rw [e1, e2, if_pos (by omega), if_pos (by omega)]
    have e3 : ((l.length : Int) - 1 + 1).toNat = l.length := by omega
    rw [e3]
    simp
/-- a block of none of the law's own -/
def Ok (w0 : World) (D : Nat) (F Gb : Nat → Prop) (k : Nat) : Prop := w0.heap.size < k ∧ k ≠ D ∧ ¬ F k ∧ ¬ Gb k
set_option maxHeartbeats 8000000 in
set_option maxRecDepth 100000 in
theorem own_call {w : World} {u : Value} {l : List El} (n : Int) (h : SL (fun k => k < w.heap.size) w u l) (hb : l.length * 8 ≤ 140737488351232) :
    Calls Try.prog 3 #[u, .int .i64 n] w fun e w' => e = .returned (.bool true) ∧ Below w.heap.size w w' := by
  obtain ⟨ua, uc, rfl, huc, hur⟩ := id h
  have HU := hid_of h
  have H4 := hid_of pushFront_nil
  have H5 := hid_of pushBack_nil
  have H6 := hid_of trim_nil
  have H7 := hid_of at_nil
  have H8 := hid_of Nil.len_nil
  have H9 := hid_of popFront_nil
  have H10 := hid_of popBack_nil
  have H11 := hid_of slice_nil
  have H12 := hid_of (fun W => find_nil W 0 (.inl rfl))
  have H13 := hid_of list_nil
  have H14 := hid_of (put_nil 1)
  have H15 := hid_of remove_nil
  have H16 := hid_of insert_nil
  have H17 := hid_of all_nil
  clear h hur
  refine (callsIn_wide (n := 5)).1 ?_
  refine callsIn_of_wp_marks Try.func3 rfl trivial ?_ rfl
  refine wpIn_wide.2 ?_
  simp only [Try.ntmps3, List.size_toArray, List.length_cons, List.length_nil, Nat.reduceAdd, Nat.reduceSub, Array.replicate_succ, Array.replicate_zero, List.push_toArray, List.append_toArray, List.nil_append, List.cons_append]
  go_wp2_with fail
  refine (H4.out _ _).mono ?_
  rintro e w1 ⟨rfl, hw1⟩
  have S1 : Hid (So w w1) := by rw [hw1]; exact (So.start w).alloc _
  clear hw1
  go_wp2_with fail
  refine (H5.out _ _).mono ?_
  rintro e w2 ⟨rfl, hw2⟩
  have S2 : Hid (So w w2) := by rw [hw2]; exact S1.out.alloc _
  clear hw2
  go_wp2_with fail
  refine (H6.out _).mono ?_
  rintro e w3 ⟨rfl, hw3⟩
  rw [hw3]
  go_wp2_with fail
  refine (H7.out _).mono ?_
  rintro e w4 ⟨rfl, k4⟩
  have S4 := hid_of (S2.out.read k4)
  clear k4 hw3
  go_wp2_with fail
  refine (H8.out _).mono ?_
  rintro e v8 ⟨rfl, hv8⟩
  rw [hv8]
  clear hv8
  go_wp2_with fail
  refine (H9.out _).mono ?_
  rintro e w9 ⟨a9, c9, rfl, k9⟩
  have Sw9 := hid_of (S4.out.read k9)
  clear k9
  go_wp2_with fail
  refine (H10.out _).mono ?_
  rintro e w10 ⟨a10, c10, rfl, k10⟩
  have Sw10 := hid_of (Sw9.out.read k10)
  clear k10
  go_wp2_with fail
  refine (H11.out _).mono ?_
  rintro e w11 ⟨a11, c11, rfl, k11⟩
  have Sw11 := hid_of (Sw10.out.read k11)
  clear k11
  go_wp2_with fail
  refine (H12.out _).mono ?_
  rintro e v12 ⟨rfl, hv12⟩
  rw [hv12]
  clear hv12
  go_wp2_with fail
  refine (H13.out _).mono ?_
  rintro e w13 ⟨a13, c13, rfl, k13⟩
  have Sw13 := hid_of (Sw11.out.read k13)
  clear k13
  go_wp2_with fail
  refine (H14.out _).mono ?_
  rintro e v14 ⟨rfl, hv14⟩
  rw [hv14]
  clear hv14
  go_wp2_with fail
  refine (H15.out _).mono ?_
  rintro e v15 ⟨rfl, hv15⟩
  rw [hv15]
  clear hv15
  go_wp2_with fail
  refine (H16.out _).mono ?_
  rintro e v16 ⟨rfl, hv16⟩
  rw [hv16]
  clear hv16
  go_wp2_with fail
  refine (H17.out _).mono ?_
  rintro e w17 ⟨Bx, a17, c17, rfl, hB, hx, k17⟩
  have S17 := hid_of (Sw13.out.read k17)
  have HX := hid_of (And.intro hB hx)
  have hne := ne_nilF
  clear k17 hB hx
  go_wp2_with fail
  have hIt := iter_none (fun _ => #[.int .i64 0, .int .i64 0]) 4 (by decide) (fun _ => False) Bx a17 c17 w17 (Lib.cell_of_heap HX.out.2 0)
  have hKb : ∀ (W : World) (q : Nat) (o o' : Obj), w17.heap.size ≤ q → W.heap[q]? = some o → o.isCells = false → o.isWalk = false → Kp (fun _ => False) W (W.putObj q o') := fun W q o o' _ _ _ _ k hk => hk.elim
  have hsz : w.heap.size + 1 ≤ w17.heap.size := lt_of S17.out.rb
  refine (wpIn_wide (n := 5)).1 ?_
  apply wpIn_rangeFunc_ownG (F := Fence.wide) (n := 5) (P := Try.prog) (w := w17) rfl (by decide) (gf := 39) (lb := #[.pointer (some ⟨Bx, 0, none⟩)]) rfl trivial (enters_of Try.func39 (by kernel_rfl) rfl) hIt kp_t hKb (Below.refl _ _) (fun _ => rfl)
    (fun pre W => So w W) (fun c pre W => False) (so_own w _ hsz) (fun c => ownFrom_pure _ _) S17.out
  case hassign =>
    intro lp x W K hK
    gi_wp2
    exact hK
  case hbody =>
    rintro lp pre x W hIv hpl
    exact absurd hpl (Nat.not_lt_zero _)
  case hstop =>
    rintro D2 c pre W hD _ hf _
    exact hf.elim
  case hdone =>
    rintro D xs W hD hxs hIv hK
    have SW := hid_of (show So w W ∧ W.heap[D]? = some (.deferred (some [])) ∧ w.heap.size < D from ⟨hIv, hK, by omega⟩)
    have hlu : SL (fun k => k < w.heap.size) W (.slice ua l.length uc) l := HU.out.keep fun k hk e => hIv.bel.block k e
    obtain ⟨ua', uc', eu, _, hru⟩ := hlu
    cases eu
    obtain ⟨v1, w18, hrun1, n18, k18⟩ := app_nil (c := uc) hru (by omega) 22
    have HO := hid_of (of_call n18.sl (by omega))
    have N18 := hid_of (And.intro n18 k18)
    obtain ⟨ga, gc, rfl, _, _⟩ := id n18.sl
    have HAw := hid_of awake_call
    clear hIt hKb hxs hIv hK hD hne n18 k18 hru
    go_wp2_with (first | (at_builtin; refine wpl_eq rfl _ _ 22 22 rfl (.slice none 0 0) (.slice ua l.length uc) (.slice ga l.length gc) _ w18 rfl rfl hrun1 ?_; clear hrun1))
    refine HO.out.mono ?_
    rintro e w19 ⟨b, rfl, q19, k19⟩
    have Q19 := hid_of (And.intro q19 k19)
    clear q19 k19
    go_wp2_with fail
    refine (HAw.out _).mono ?_
    rintro e w20 ⟨rfl, k20⟩
    obtain ⟨F1, HF1⟩ : ∃ F1 : Nat → Prop, Hid (F1 = fun k => w18.heap.size ≤ k ∧ k < w19.heap.size) := ⟨_, hid_of rfl⟩
    have S20 : Hid (Iq w D b F1 (fun _ => False) l [] (.slice none 0 0) w20) := by
      have k1 := N18.out.2
      have k2 := Q19.out.2
      refine ⟨((SW.out.1.read k1).read k2).read k20, ?_, by rw [HF1.out]; exact (Q19.out.1.low).below k20, SL.nil _ _⟩
      have hD := lt_of SW.out.2.1
      rw [k20.block D (by have := k1.size; have := k2.size; omega), k2.block D (by have := k1.size; omega), k1.block D hD]
      exact SW.out.2.1
    have G20 : Hid (l.length = 0 ∨ ∃ g, ga = some ⟨g, 0, none⟩ ∧ Rz g l.length w20 ∧ W.heap.size ≤ g ∧ g < w18.heap.size) := by
      rcases rz_of N18.out.1 rfl with h0 | ⟨g, e, hz, h1, h2⟩
      · exact .inl h0
      · exact .inr ⟨g, e, (hz.below Q19.out.2).below k20, h1, h2⟩
    have hWs : w.heap.size < W.heap.size := lt_of SW.out.1.rb
    have hDW : D < W.heap.size := lt_of SW.out.2.1
    have HK20 := hid_of k20.size
    clear k20
    go_wp2_with fail
    go_loopg [11] (l.length) (fun gh s11 wx => ∃ i : Nat, i ≤ l.length ∧ l.length ≤ i + gh ∧ s11 = .int .i64 (i : Int) ∧ Hid (Iq w D b F1 (fun _ => False) l [] (.slice none 0 0) wx ∧ (l.length = 0 ∨ ∃ g, ga = some ⟨g, 0, none⟩ ∧ Rz g l.length wx ∧ W.heap.size ≤ g ∧ g < w18.heap.size) ∧ w19.heap.size ≤ wx.heap.size))
    case atStart => exact ⟨0, by omega, by omega, rfl, ⟨S20.out, G20.out, HK20.out⟩⟩
    case round =>
      obtain ⟨i, hi, hgh, rfl, R⟩ := hrel
      by_cases hlt : i < l.length
      · obtain ⟨g', rfl⟩ : ∃ g', gk = g' + 1 := ⟨gk - 1, by omega⟩
        obtain ⟨q, hq, hs⟩ := R.out
        obtain ⟨g, rfl, hz, h1, h2⟩ : ∃ g, ga = some ⟨g, 0, none⟩ ∧ Rz g l.length wr ∧ W.heap.size ≤ g ∧ g < w18.heap.size := by
          rcases hq with h | h
          · omega
          · exact h
        obtain ⟨⟨y, cy⟩, zy⟩ := hz.get i hlt
        have HX := hid_of (fun x : Int => (show Iq w D b F1 (fun _ => False) l [] (.slice none 0 0) (wr.setCell ⟨g, i, none⟩ (V x)) ∧ (l.length = 0 ∨ ∃ g', some (⟨g, 0, none⟩ : Addr) = some ⟨g', 0, none⟩ ∧ Rz g' l.length (wr.setCell ⟨g, i, none⟩ (V x)) ∧ W.heap.size ≤ g' ∧ g' < w18.heap.size) ∧ w19.heap.size ≤ (wr.setCell ⟨g, i, none⟩ (V x)).heap.size from
          ⟨q.fr (Fr.set (F := fun k => k = g) (i := i) rfl (V x)) fun k e => by rw [e]; exact ⟨by omega, by omega, by rw [HF1.out]; intro c; have := c.1; omega, fun c => c⟩, .inr ⟨g, rfl, hz.set i x, h1, h2⟩, Nat.le_trans hs (Fr.set (F := fun k => k = g) (i := i) rfl (V x) : Fr _ wr _).size⟩))
        have e2 : IntKind.i64.wrap ((i : Int) + 1) = (i : Int) + 1 := IntWalk.i64_in _ (by omega)
        clear R q hq hz hs
        go_wp2_with fail
        go_roundg g'
        case measure => omega
        case rel => exact ⟨i + 1, by omega, by omega, by simp, HX.out _⟩
      · obtain ⟨q, hq, hs⟩ := R.out
        have HSz := hid_of hs
        have HL := hid_of (list_call q.dq (by omega))
        have Q := hid_of q
        clear R q hq hs
        go_wp2_with fail
        refine HL.out.mono ?_
        rintro e w21 ⟨va, rfl, n21, k21⟩
        have Q21 := hid_of (Q.out.read k21)
        have HL2 := hid_of (list_call Q21.out.dq (by omega))
        have N21 := hid_of (And.intro n21 k21)
        obtain ⟨aa, ac, rfl, _, _⟩ := id n21.sl
        clear n21 k21
        go_wp2_with fail
        refine HL2.out.mono ?_
        rintro e w22 ⟨vb, rfl, n22, k22⟩
        have Q22 := hid_of (Q21.out.read k22)
        have HL3 := hid_of (Piece.slice_call Q22.out.dq 0 (-1) (by omega) (by omega) (by omega) (by omega) (by omega))
        have N22 := hid_of (And.intro n22 k22)
        obtain ⟨ba, bc, rfl, _, _⟩ := id n22.sl
        clear n22 k22
        rw [piece_all] at HL3
        go_wp2_with fail
        refine HL3.out.mono ?_
        rintro e w23 ⟨vc, rfl, n23, k23⟩
        obtain ⟨Gb, HGb⟩ : ∃ Gb : Nat → Prop, Hid (Gb = fun k => w21.heap.size ≤ k ∧ k < w22.heap.size) := ⟨_, hid_of rfl⟩
        have Q23 : Hid (Iq w D b F1 Gb l l (.slice ba l.length bc) w23) := by
          have q := Q22.out.read k23
          refine ⟨q.so, q.mrk, q.dq, ?_⟩
          rw [HGb.out]
          obtain ⟨a', c', e', hc', hr'⟩ := N22.out.1.sl
          exact SL.below (w := w22) ⟨a', c', e', hc', hr'.lt⟩ k23
        have hsz : Hid (W.heap.size ≤ w18.heap.size ∧ w18.heap.size ≤ w19.heap.size ∧ w19.heap.size ≤ wr.heap.size ∧ wr.heap.size ≤ w21.heap.size ∧ w21.heap.size ≤ w22.heap.size ∧ w22.heap.size ≤ w23.heap.size) := ⟨N18.out.2.size, Q19.out.2.size, HSz.out, N21.out.2.size, N22.out.2.size, k23.size⟩
        have ZA : Hid (Nz (fun k => wr.heap.size ≤ k ∧ k < w21.heap.size) l.length (.slice aa l.length ac) w23) := ((Nz.of N21.out.1).below N22.out.2).below k23
        have ZC := hid_of (Nz.of n23)
        obtain ⟨xa, xc, rfl, _, _⟩ := id n23.sl
        have OA : Hid (∀ k, wr.heap.size ≤ k ∧ k < w21.heap.size → Ok w D F1 Gb k) := fun k e => by
          have := hsz.out
          unfold Ok
          rw [HF1.out, HGb.out]
          refine ⟨by omega, by omega, fun c => ?_, fun c => ?_⟩
          · have := c.2; omega
          · have := c.1; omega
        have OC : Hid (∀ k, w22.heap.size ≤ k ∧ k < w23.heap.size → Ok w D F1 Gb k) := fun k e => by
          have := hsz.out
          unfold Ok
          rw [HF1.out, HGb.out]
          refine ⟨by omega, by omega, fun c => ?_, fun c => ?_⟩
          · have := c.2; omega
          · have := c.2; omega
        obtain ⟨PA, HPA⟩ : ∃ PA : Nat → Prop, Hid (PA = fun k => wr.heap.size ≤ k ∧ k < w21.heap.size) := ⟨_, hid_of rfl⟩
        obtain ⟨PC, HPC⟩ : ∃ PC : Nat → Prop, Hid (PC = fun k => w22.heap.size ≤ k ∧ k < w23.heap.size) := ⟨_, hid_of rfl⟩
        rw [← HPA.out] at ZA
        rw [← HPC.out] at ZC
        have OO : Hid ((∀ k, PA k → Ok w D F1 Gb k ∧ ¬ PC k ∧ k < w23.heap.size) ∧ (∀ k, PC k → Ok w D F1 Gb k ∧ k < w23.heap.size)) := by
          rw [HPA.out, HPC.out]
          have := hsz.out
          exact ⟨fun k e => ⟨OA.out k e, fun c => by have := c.1; omega, by omega⟩, fun k e => ⟨OC.out k e, e.2⟩⟩
        have ON : Hid (∀ k, w23.heap.size ≤ k → Ok w D F1 Gb k) := fun k e => by
          have := hsz.out
          unfold Ok
          rw [HF1.out, HGb.out]
          refine ⟨by omega, by omega, fun c => ?_, fun c => ?_⟩
          · have := c.2; omega
          · have := c.2; omega
        have GF : Hid ((∀ k, Gb k → ¬ F1 k) ∧ ∀ k, Gb k → k < w23.heap.size) := by
          have := hsz.out
          rw [HF1.out, HGb.out]
          exact ⟨fun k e c => by have := c.2; omega, fun k e => by omega⟩
        clear n23 k23 OA OC HPA HPC HL HL2 HL3 N21 N22 Q21 Q22 hsz HSz
        go_wp2_with fail
        go_loopg [15] (l.length) (fun gh s15 wx => ∃ i : Nat, i ≤ l.length ∧ l.length ≤ i + gh ∧ s15 = .int .i64 (i : Int) ∧ Hid (Iq w D b F1 Gb l l (.slice ba l.length bc) wx ∧ Nz PA l.length (.slice aa l.length ac) wx ∧ Nz PC l.length (.slice xa l.length xc) wx ∧ w23.heap.size ≤ wx.heap.size))
        case atStart => exact ⟨0, by omega, by omega, rfl, ⟨Q23.out, ZA.out, ZC.out, Nat.le_refl _⟩⟩
        case round =>
          obtain ⟨i, hi, hgh, rfl, R⟩ := hrel
          by_cases hlt : i < l.length
          · obtain ⟨g', rfl⟩ : ∃ g', gk = g' + 1 := ⟨gk - 1, by omega⟩
            obtain ⟨q, hA, hC, hs⟩ := R.out
            obtain ⟨g, rfl, pg, ⟨y, cy⟩, zy, sA⟩ := hA.get hlt
            have f1 : Fr (fun k => k = g) wr (wr.setCell ⟨g, i, none⟩ (V 77)) := Fr.set (F := fun k => k = g) (i := i) rfl (V 77)
            have hC1 := hC.fr f1 fun k hk e => (OO.out.1 g pg).2.1 (by rw [← e]; exact hk)
            obtain ⟨g2, rfl, pg2, ⟨y2, cy2⟩, zy2, sC⟩ := hC1.get hlt
            have f2 : Fr (fun k => k = g2) (wr.setCell ⟨g, i, none⟩ (V 77)) ((wr.setCell ⟨g, i, none⟩ (V 77)).setCell ⟨g2, i, none⟩ (V 78)) := Fr.set (F := fun k => k = g2) (i := i) rfl (V 78)
            have HX := hid_of (And.intro ((q.fr f1 fun k e => by rw [e]; exact (OO.out.1 g pg).1).fr f2 fun k e => by rw [e]; exact (OO.out.2 g2 pg2).1) (And.intro ((sA 77).fr f2 fun k hk e => (OO.out.1 k hk).2.1 (by rw [e]; exact pg2)) (And.intro (sC 78) (Nat.le_trans hs (Nat.le_trans f1.size f2.size)))))
            have e2 : IntKind.i64.wrap ((i : Int) + 1) = (i : Int) + 1 := IntWalk.i64_in _ (by omega)
            clear R q hA hC hs hC1 f1 f2 sA sC
            go_wp2_with fail
            go_roundg g'
            case measure => omega
            case rel => exact ⟨i + 1, by omega, by omega, by simp, HX.out⟩
          · have R2 := hid_of R.out
            clear R
            have O9 : Hid (∃ PA PC : Nat → Prop, Nz PA (l.length + 0) (.slice aa (l.length + 0) ac) wr ∧ Nz PC (l.length + 0) (.slice xa (l.length + 0) xc) wr ∧ (∀ k, PA k → Ok w D F1 Gb k ∧ ¬ PC k ∧ k < wr.heap.size) ∧ (∀ k, PC k → Ok w D F1 Gb k ∧ k < wr.heap.size)) := by
              have hs := R2.out.2.2.2
              exact ⟨PA, PC, R2.out.2.1, R2.out.2.2.1, fun k e => ⟨(OO.out.1 k e).1, (OO.out.1 k e).2.1, Nat.lt_of_lt_of_le (OO.out.1 k e).2.2 hs⟩, fun k e => ⟨(OO.out.2 k e).1, Nat.lt_of_lt_of_le (OO.out.2 k e).2 hs⟩⟩
            go_wp2_with fail
            go_loopg [12, 14, 16] 9 (fun gh s12 s14 s16 wx => ∃ (j : Nat) (a0 c0 : Option Addr) (ak ck : Nat), j ≤ 9 ∧ 9 ≤ j + gh ∧ s12 = .slice a0 (l.length + j) ak ∧ s14 = .slice c0 (l.length + j) ck ∧ s16 = .int .i64 (j : Int) ∧ Hid (Iq w D b F1 Gb l l (.slice ba l.length bc) wx ∧ ∃ PA PC : Nat → Prop, Nz PA (l.length + j) (.slice a0 (l.length + j) ak) wx ∧ Nz PC (l.length + j) (.slice c0 (l.length + j) ck) wx ∧ (∀ k, PA k → Ok w D F1 Gb k ∧ ¬ PC k ∧ k < wx.heap.size) ∧ (∀ k, PC k → Ok w D F1 Gb k ∧ k < wx.heap.size) ∧ w23.heap.size ≤ wx.heap.size))
            case atStart => exact ⟨0, aa, xa, ac, xc, by omega, by omega, rfl, rfl, rfl, ⟨R2.out.1, by obtain ⟨PA, PC, h1, h2, h3, h4⟩ := O9.out; exact ⟨PA, PC, h1, h2, h3, h4, R2.out.2.2.2⟩⟩⟩
            case round =>
              obtain ⟨j, a0, c0, ak, ck, hj, hgj, rfl, rfl, rfl, R⟩ := hrel
              by_cases hlt9 : j < 9
              · obtain ⟨g', rfl⟩ : ∃ g', gk = g' + 1 := ⟨gk - 1, by omega⟩
                have t9 : (j : Int) < 9 := by omega
                obtain ⟨q, PA, PC, hA, hC, oA, oC, hs⟩ := R.out
                obtain ⟨a1, ak1, wA, hrunA, zA, fA⟩ := appZ 79 hA (by omega)
                have hC1 := hC.fr fA fun k pk pa => (oA k pa).2.1 pk
                obtain ⟨c1, ck1, wB, hrunB, zC, fC⟩ := appZ 80 hC1 (by omega)
                have HX : Hid (Iq w D b F1 Gb l l (.slice ba l.length bc) wB ∧ ∃ PA PC : Nat → Prop, Nz PA (l.length + (j + 1)) (.slice a1 (l.length + (j + 1)) ak1) wB ∧ Nz PC (l.length + (j + 1)) (.slice c1 (l.length + (j + 1)) ck1) wB ∧ (∀ k, PA k → Ok w D F1 Gb k ∧ ¬ PC k ∧ k < wB.heap.size) ∧ (∀ k, PC k → Ok w D F1 Gb k ∧ k < wB.heap.size) ∧ w23.heap.size ≤ wB.heap.size) := by
                  have s1 := fA.size
                  have s2 := fC.size
                  refine ⟨(q.fr fA fun k e => (oA k e).1).fr fC fun k e => (oC k e).1, fun k => (PA k ∨ wr.heap.size ≤ k) ∧ k < wA.heap.size, fun k => (PC k ∨ wA.heap.size ≤ k) ∧ k < wB.heap.size, zA.lt.fr fC fun k e pc => ?_, zC.lt, fun k e => ⟨?_, fun c => ?_, by omega⟩, fun k e => ⟨?_, e.2⟩, by omega⟩
                  · rcases e.1 with h | h
                    · exact (oA k h).2.1 pc
                    · have := (oC k pc).2; omega
                  · rcases e.1 with h | h
                    · exact (oA k h).1
                    · exact ON.out k (by omega)
                  · rcases c.1 with h | h
                    · rcases e.1 with h' | h'
                      · exact (oA k h').2.1 h
                      · have := (oC k h).2; omega
                    · omega
                  · rcases e.1 with h | h
                    · exact (oC k h).1
                    · exact ON.out k (by omega)
                have e2 : IntKind.i64.wrap ((j : Int) + 1) = (j : Int) + 1 := IntWalk.i64_in _ (by omega)
                clear R q hA hC oA oC hs hC1 zA zC fA fC
                go_wp2_with (first
                  | (at_builtin; refine wpl_eq rfl _ _ 22 22 rfl (.slice a0 (l.length + j) ak) (.slice (some ⟨wr.heap.size, 0, none⟩) 1 1) (.slice a1 (l.length + j + 1) ak1) _ wA rfl rfl hrunA ?_; clear hrunA)
                  | (at_builtin; refine wpl_eq rfl _ _ 22 22 rfl (.slice c0 (l.length + j) ck) (.slice (some ⟨wA.heap.size, 0, none⟩) 1 1) (.slice c1 (l.length + j + 1) ck1) _ wB rfl rfl hrunB ?_; clear hrunB))
                go_roundg g'
                case measure => omega
                case rel => exact ⟨j + 1, a1, c1, ak1, ck1, by omega, by omega, rfl, rfl, by simp, HX⟩
              · have t9 : ¬ (j : Int) < 9 := by omega
                have R9 := hid_of (And.intro R.out.1 (show w23.heap.size ≤ wr.heap.size by obtain ⟨_, PA, PC, _, _, _, _, hs⟩ := R.out; exact hs))
                have hlu9 : SL (fun k => k < w.heap.size) wr (.slice ua l.length uc) l := HU.out.keep fun k hk e => R9.out.1.so.bel.block k e
                have HP := hid_of (Ref.rpop_call hlu9 n (by omega))
                clear R hlu9
                go_wp2_with fail
                refine HP.out.mono ?_
                rintro e w24 ⟨r24, s24, rfl, nr, ns, k24⟩
                have Q24 := hid_of (R9.out.1.read k24)
                have HF := hid_of (PopS.popFront_sep Q24.out.dq n (by omega))
                have N24 := hid_of (And.intro nr (And.intro ns k24))
                clear nr ns k24
                go_wp2_with fail
                refine HF.out.mono ?_
                rintro e w25 ⟨v25, B1, rfl, n25, z25, q25, f25, hB1, hB2⟩
                obtain ⟨lt, Hlt⟩ : ∃ lt, Hid (lt = l.take (Keep.clamp n l.length)) := ⟨_, hid_of rfl⟩
                obtain ⟨ld, Hld⟩ : ∃ ld, Hid (ld = l.drop (Keep.clamp n l.length)) := ⟨_, hid_of rfl⟩
                have hltl : lt.length ≤ l.length := by rw [Hlt.out, List.length_take]; omega
                have hldl : ld.length ≤ l.length := by rw [Hld.out, List.length_drop]; omega
                rw [← Hlt.out] at n25 z25
                rw [← Hld.out] at q25
                have N24' : Hid (NR wr.heap.size w24 r24 lt ∧ NR wr.heap.size w24 s24 ld ∧ Below wr.heap.size wr w24) := by rw [Hlt.out, Hld.out]; exact N24.out
                obtain ⟨F2, HF2⟩ : ∃ F2 : Nat → Prop, Hid (F2 = fun j => ((F1 j ∧ j < w24.heap.size) ∨ B1 ≤ j) ∧ j < w25.heap.size) := ⟨_, hid_of rfl⟩
                obtain ⟨Gs, HGs⟩ : ∃ Gs : Nat → Prop, Hid (Gs = fun k => wr.heap.size ≤ k ∧ k < w24.heap.size) := ⟨_, hid_of rfl⟩
                have hs23 := R9.out.2
                have hs24 := N24'.out.2.2.size
                have nF : ∀ k, wr.heap.size ≤ k → ¬ F1 k := fun k e => (ON.out k (by omega)).2.2.1
                have QX : Hid (Iq w D b F2 Gb ld l (.slice ba l.length bc) w25) := by
                  have q := Q24.out
                  have bF : ∀ k, F1 k → w.heap.size < k ∧ k ≠ D := fun k e => by
                    rw [HF1.out] at e
                    have h1 := N18.out.2.size
                    exact ⟨by omega, by omega⟩
                  refine ⟨⟨q.so.bel.trans (f25.below q.so.bel.size fun k e => Nat.le_of_lt (bF k e).1), (f25.block _ (lt_of q.so.rb) fun e => Nat.lt_irrefl _ (bF _ e).1).trans q.so.rb⟩, (f25.block _ (lt_of q.mrk) fun e => (bF _ e).2 rfl).trans q.mrk, by rw [HF2.out]; exact q25.low, q.sb.keep fun k hk e => f25.block k hk fun c => GF.out.1 k e c⟩
                have SX : Hid (SL Gs w25 s24 ld) := by
                  rw [HGs.out]
                  obtain ⟨a', c', e', hc', hr'⟩ := N24'.out.2.1.sl
                  exact SL.keep (w := w24) ⟨a', c', e', hc', hr'.lt⟩ fun k hk e => f25.block k hk (nF k e.1)
                have RX : Hid (SL (fun k => wr.heap.size ≤ k) w25 r24 lt) := N24'.out.1.sl.keep fun k hk e => f25.block k hk (nF k e)
                have OP : Hid (∀ k, (w24.heap.size ≤ k ∧ k < B1) ∨ w25.heap.size ≤ k → Ok w D F2 Gb k ∧ ¬ Gs k) := fun k e => by
                  have h0 := ON.out k (by omega)
                  refine ⟨⟨h0.1, h0.2.1, ?_, h0.2.2.2⟩, ?_⟩
                  · rw [HF2.out]
                    intro c
                    rcases c.1 with c1 | c1
                    · have := c1.2; omega
                    · have := c.2; omega
                  · rw [HGs.out]; intro c; have := c.2; omega
                have HSm := hid_of (Same.same_call n25.sl RX.out rfl (by omega))
                obtain ⟨pa, pc, rfl, _, _⟩ := id n25.sl
                obtain ⟨sa, sc, rfl, _, _⟩ := id SX.out
                obtain ⟨PP, HPP⟩ : ∃ PP : Nat → Prop, Hid (PP = fun k => w24.heap.size ≤ k ∧ k < B1) := ⟨_, hid_of rfl⟩
                rw [← HPP.out] at z25
                have Z25 := hid_of z25
                have OP1 : Hid (∀ k, PP k → (Ok w D F2 Gb k ∧ ¬ Gs k) ∧ k < w25.heap.size) := by rw [HPP.out]; exact fun k e => ⟨OP.out k (.inl e), by omega⟩
                have OP2 : Hid (∀ k, w25.heap.size ≤ k → Ok w D F2 Gb k ∧ ¬ Gs k) := fun k e => OP.out k (.inr e)
                clear n25 z25 q25 f25 hB1 hB2 nF hs23 hs24 OP HP HF RX N24 N24'
                go_wp2_with fail
                refine HSm.out.mono ?_
                rintro e w26 ⟨rfl, m26, rfl⟩
                have QD := hid_of (And.intro (QX.out.read (bel_drewN w25 m26)) (And.intro (SX.out.drewN m26) (Z25.out.below (bel_drewN w25 m26))))
                have hsd : Hid (w25.heap.size ≤ (w25.drewN m26).heap.size) := (bel_drewN w25 m26).size
                clear HSm
                go_wp2_with fail
                go_loopg [20] (lt.length) (fun gh s20 wx => ∃ i : Nat, i ≤ lt.length ∧ lt.length ≤ i + gh ∧ s20 = .int .i64 (i : Int) ∧ Hid (Iq w D b F2 Gb ld l (.slice ba l.length bc) wx ∧ SL Gs wx (.slice sa ld.length sc) ld ∧ Nz PP lt.length (.slice pa lt.length pc) wx ∧ w25.heap.size ≤ wx.heap.size))
                case atStart => exact ⟨0, by omega, by omega, rfl, ⟨QD.out.1, QD.out.2.1, QD.out.2.2, hsd.out⟩⟩
                case round =>
                  obtain ⟨i3, hi3, hgh3, rfl, R⟩ := hrel
                  by_cases hlt3 : i3 < lt.length
                  · obtain ⟨g', rfl⟩ : ∃ g', gk = g' + 1 := ⟨gk - 1, by omega⟩
                    obtain ⟨q, hS, hP, hs⟩ := R.out
                    obtain ⟨g, rfl, pg, ⟨y, cy⟩, zy, sP⟩ := hP.get hlt3
                    have f1 : Fr (fun k => k = g) wr (wr.setCell ⟨g, i3, none⟩ (V 81)) := Fr.set (F := fun k => k = g) (i := i3) rfl (V 81)
                    have og := (OP1.out g pg).1
                    have HX := hid_of (And.intro (q.fr f1 fun k e => by rw [e]; exact og.1) (And.intro (hS.keep fun k hk e => f1.block k hk fun c => og.2 (by rw [← c]; exact e)) (And.intro (sP 81) (Nat.le_trans hs f1.size))))
                    have e2 : IntKind.i64.wrap ((i3 : Int) + 1) = (i3 : Int) + 1 := IntWalk.i64_in _ (by omega)
                    clear R q hS hP hs sP f1 og
                    go_wp2_with fail
                    go_roundg g'
                    case measure => omega
                    case rel => exact ⟨i3 + 1, by omega, by omega, by simp, HX.out⟩
                  · have R3 := hid_of R.out
                    clear R
                    have O3 : Hid (∃ PP : Nat → Prop, Nz PP (lt.length + 0) (.slice pa (lt.length + 0) pc) wr ∧ ∀ k, PP k → (Ok w D F2 Gb k ∧ ¬ Gs k)) := ⟨PP, R3.out.2.2.1, fun k e => (OP1.out k e).1⟩
                    go_wp2_with fail
                    go_loopg [19, 21] 9 (fun gh s19 s21 wx => ∃ (j : Nat) (a0 : Option Addr) (ak : Nat), j ≤ 9 ∧ 9 ≤ j + gh ∧ s19 = .slice a0 (lt.length + j) ak ∧ s21 = .int .i64 (j : Int) ∧ Hid (Iq w D b F2 Gb ld l (.slice ba l.length bc) wx ∧ SL Gs wx (.slice sa ld.length sc) ld ∧ (∃ PP : Nat → Prop, Nz PP (lt.length + j) (.slice a0 (lt.length + j) ak) wx ∧ ∀ k, PP k → (Ok w D F2 Gb k ∧ ¬ Gs k)) ∧ w25.heap.size ≤ wx.heap.size))
                    case atStart => exact ⟨0, pa, pc, by omega, by omega, rfl, rfl, ⟨R3.out.1, R3.out.2.1, O3.out, R3.out.2.2.2⟩⟩
                    case round =>
                      obtain ⟨j4, a4, ak4, hj4, hg4, rfl, rfl, R⟩ := hrel
                      by_cases hlt4 : j4 < 9
                      · obtain ⟨g', rfl⟩ : ∃ g', gk = g' + 1 := ⟨gk - 1, by omega⟩
                        have t94 : (j4 : Int) < 9 := by omega
                        obtain ⟨q, hS, ⟨PQ, hA, oA⟩, hs⟩ := R.out
                        obtain ⟨a1, ak1, wA, hrunA, zA, fA⟩ := appZ 82 hA (by omega)
                        have HX : Hid (Iq w D b F2 Gb ld l (.slice ba l.length bc) wA ∧ SL Gs wA (.slice sa ld.length sc) ld ∧ (∃ PP : Nat → Prop, Nz PP (lt.length + (j4 + 1)) (.slice a1 (lt.length + (j4 + 1)) ak1) wA ∧ ∀ k, PP k → (Ok w D F2 Gb k ∧ ¬ Gs k)) ∧ w25.heap.size ≤ wA.heap.size) := by
                          refine ⟨q.fr fA fun k e => (oA k e).1, hS.keep fun k hk e => fA.block k hk fun c => (oA k c).2 e, ⟨_, zA, fun k e => ?_⟩, Nat.le_trans hs fA.size⟩
                          rcases e with h | h
                          · exact oA k h
                          · exact OP2.out k (by omega)
                        have e2 : IntKind.i64.wrap ((j4 : Int) + 1) = (j4 : Int) + 1 := IntWalk.i64_in _ (by omega)
                        clear R q hS hA oA hs zA fA
                        go_wp2_with (first
                          | (at_builtin; refine wpl_eq rfl _ _ 22 22 rfl (.slice a4 (lt.length + j4) ak4) (.slice (some ⟨wr.heap.size, 0, none⟩) 1 1) (.slice a1 (lt.length + j4 + 1) ak1) _ wA rfl rfl hrunA ?_; clear hrunA))
                        go_roundg g'
                        case measure => omega
                        case rel => exact ⟨j4 + 1, a1, ak1, by omega, by omega, rfl, by simp, HX⟩
                      · have t94 : ¬ (j4 : Int) < 9 := by omega
                        obtain ⟨q, hS, _, _⟩ := R.out
                        have hlu5 : SL (fun k => k < w.heap.size) wr (.slice ua l.length uc) l := HU.out.keep fun k hk e => q.so.bel.block k e
                        have H21 := hid_of (Same.same_call q.sb hlu5 rfl (by omega))
                        have QS := hid_of (And.intro q hS)
                        clear R q hS hlu5
                        go_wp2_with fail
                        refine H21.out.mono ?_
                        rintro e w30 ⟨rfl, m30, rfl⟩
                        have Q30 := hid_of (And.intro (QS.out.1.read (bel_drewN wr m30)) (QS.out.2.drewN m30))
                        have HLl := hid_of (list_call Q30.out.1.dq (by omega))
                        go_wp2_with fail
                        refine HLl.out.mono ?_
                        rintro e w31 ⟨v31, rfl, n31, k31⟩
                        have Q31 := hid_of (Q30.out.1.read k31)
                        have H22 := hid_of (Same.same_call n31.sl (Q30.out.2.below k31) rfl (by omega))
                        clear n31 k31
                        go_wp2_with fail
                        refine H22.out.mono ?_
                        rintro e w32 ⟨rfl, m32, rfl⟩
                        have Q32 := hid_of (Q31.out.read (bel_drewN w31 m32))
                        have crb : (w31.drewN m32).cell? ⟨w.heap.size, 0, none⟩ = some (.bool false) := Lib.cell_of_heap Q32.out.so.rb 0
                        have zrb : (w31.drewN m32).frozen? ⟨w.heap.size, 0, none⟩ = false := Lib.frozen_of_heap Q32.out.so.rb 0
                        have hDne : D ≠ w.heap.size := by have := SW.out.2.2; omega
                        have hK2 : ((w31.drewN m32).setCell ⟨w.heap.size, 0, none⟩ (.bool true)).heap[D]? = some (.deferred (some [])) := (Below.heap_setCell _ _ _ _ hDne).trans Q32.out.mrk
                        have hR2 : ((w31.drewN m32).setCell ⟨w.heap.size, 0, none⟩ (.bool true)).heap[w.heap.size]? = some (.cells #[.bool true] 4 (0, 0)) := by
                          have := set_at (i := 0) Q32.out.so.rb (.bool true)
                          simpa using this
                        have HB2 := hid_of (Q32.out.so.bel.setCell (Nat.le_refl w.heap.size) (.bool true) : Below w.heap.size w ((w31.drewN m32).setCell ⟨w.heap.size, 0, none⟩ (.bool true)))
                        have HK2 := hid_of (And.intro hK2 hR2)
                        clear hK2 hR2
                        go_wp2_with fail
                        refine ⟨by simp, .inl ⟨_, _, rfl, run_takeDeferred HK2.out.1, ?_⟩⟩
                        have hKw : ((((w31.drewN m32).setCell ⟨w.heap.size, 0, none⟩ (.bool true)).putObj D (.deferred none))).heap[w.heap.size]? = some (.cells #[.bool true] 4 (0, 0)) := ((grownBy_putObj' _ D (.deferred none)).block w.heap.size (lt_of HK2.out.2) (fun e => hDne (by cases e; rfl))).trans HK2.out.2
                        have hcr : ((((w31.drewN m32).setCell ⟨w.heap.size, 0, none⟩ (.bool true)).putObj D (.deferred none))).cell? ⟨w.heap.size, 0, none⟩ = some (.bool true) := Lib.cell_of_heap hKw 0
                        have bG : Below w.heap.size w (((w31.drewN m32).setCell ⟨w.heap.size, 0, none⟩ (.bool true)).putObj D (.deferred none)) := HB2.out.grown (grownBy_putObj' _ D (.deferred none)) HB2.out.size (fun j hj => by cases hj; have := SW.out.2.2; omega)
                        refine ⟨.bool true, ?_, rfl, bG⟩
                        simp [results, Try.results3]
                        exact ret_cell _ _ hcr
end Go.Proofs.Ytdmjfmojacnbeab.Own
