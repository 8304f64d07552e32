/- The law TableKeys. -/
import Derived.Test.YtgmnmcaclpfknaaKeys
import Derived.Test.YtgmnmcaclpfknaaLaws
namespace Go.Proofs.Ytgmnmcaclpfknaa.LawK
open Go.RowKit
open Go.Proofs.Ytgmnmcaclpfknaa.Tab
open Go.Proofs.Ytgmnmcaclpfknaa.Base
open Go.Proofs.Ytgmnmcaclpfknaa.Low
open Go.Proofs.Ytgmnmcaclpfknaa.FindP
open Go.Proofs.Ytgmnmcaclpfknaa.RowOf
open Go.Proofs.Ytgmnmcaclpfknaa.Keys
open Go.Proofs.Ytgmnmcaclpfknaa.Laws
open Go.Proofs.Ytgmnmcaclpfknaa.Small
attribute [local go_sem] Oper.semAt_some
set_option linter.unusedVariables false
set_option linter.unusedSimpArgs false
theorem nr_set {B : Nat} {w : World} {a : Option Addr} {n c : Nat} {l : List Tab.Bs} (h : NR B w (.slice a n c) l) (j : Nat) (hj : j < l.length) (x : Tab.Bs) : ∃ g, a = some ⟨g, 0, none⟩ ∧ B ≤ g ∧ (∃ y, w.cell? ⟨g, j, none⟩ = some (V y)) ∧ w.frozen? ⟨g, j, none⟩ = false ∧ NR B (w.setCell ⟨g, j, none⟩ (V x)) (.slice a n c) (l.set j x) := by
  rcases h with ⟨_, rfl⟩ | ⟨g, c', cur, e, hB, hr, hx, hl, ht⟩
  · simp at hj
  · injection e with e1 e2 e3
    subst e1 e2 e3
    refine ⟨g, rfl, hB, ⟨l[j], ?_⟩, Lib.frozen_of_heap hr j, .inr ⟨g, c, _, by rw [List.length_set], hB, set_at hr _, by simp [hx], by rw [List.length_set]; exact hl, ?_⟩⟩
    · rw [Lib.cell_of_heap hr]
      exact row_at ht (List.getElem?_eq_getElem hj)
    · rw [List.length_set, Array.toList_setIfInBounds, List.take_set, ht, ← List.map_set]
theorem keys_len (l : List Tab.Bs) : (keysS l).length ≤ l.length := by
  rcases good_or l with ⟨r, G0⟩ | ⟨h1, h2⟩
  · rw [G0.keys]
    split
    · rename_i hf
      have hfi := G0.last hf
      rw [picks_len]
      rcases Nat.eq_zero_or_pos (cnt r.first.toNat r.step.toNat (lastK r l.length)) with q | q
      · omega
      · have := (cnt_iff (F := r.first.toNat) (S := r.step.toNat) (la := lastK r l.length) (by omega) (cnt r.first.toNat r.step.toNat (lastK r l.length) - 1)).1 (by omega)
        have h2 : cnt r.first.toNat r.step.toNat (lastK r l.length) - 1 ≤ (cnt r.first.toNat r.step.toNat (lastK r l.length) - 1) * r.step.toNat := Nat.le_mul_of_pos_right _ (by omega)
        omega
    · simp
  · rw [bad_keys h2]; simp
def spare : Tab.Bs := [115, 112, 97, 114, 101]
/- what stands all along: what was given, and the copy with one behind it -/
structure Gk (w : World) (B : Nat) (a ag : Option Addr) (c cg : Nat) (l : List Tab.Bs) (W : World) : Prop where
  bel : Below w.heap.size w W
  args : SL (fun k => k < B) W (.slice a l.length c) l
  cop : SL (fun k => k < B) W (.slice ag (l.length + 1) cg) (l ++ [spare])
  wB : w.heap.size ≤ B
  size : B ≤ W.heap.size
theorem Gk.low {w W W' : World} {B c cg : Nat} {a ag : Option Addr} {l : List Tab.Bs} (h : Gk w B a ag c cg l W) (b : Below B W W') : Gk w B a ag c cg l W' :=
  ⟨h.bel.trans (b.mono h.wB), h.args.keep fun k _ hk => b.block k hk, h.cop.keep fun k _ hk => b.block k hk, h.wB, Nat.le_trans h.size b.size⟩
theorem Gk.drewN {w W : World} {B c cg : Nat} {a ag : Option Addr} {l : List Tab.Bs} (h : Gk w B a ag c cg l W) (n : Nat) : Gk w B a ag c cg l (W.drewN n) :=
  ⟨⟨h.bel.os, h.bel.tape, h.bel.output, h.bel.size, h.bel.block⟩, h.args.drewN n, h.cop.drewN n, h.wB, h.size⟩
theorem Gk.cut {w W : World} {B c cg : Nat} {a ag : Option Addr} {l : List Tab.Bs} (h : Gk w B a ag c cg l W) : SL (fun k => k < B) W (.slice ag l.length cg) l := by
  obtain ⟨a', c', e, hc, hr⟩ := h.cop
  injection e with e1 e2 e3
  subst e1 e3
  refine ⟨ag, cg, rfl, by rw [List.length_append] at hc; simp at hc; omega, ?_⟩
  have := hr.take l.length
  rwa [List.take_left'  rfl] at this
theorem Gk.last {w W : World} {B c cg : Nat} {a ag : Option Addr} {l : List Tab.Bs} (h : Gk w B a ag c cg l W) : ∃ g o, ag = some ⟨g, o, none⟩ ∧ ∀ V, Gk w B a (some ⟨g, o, none⟩) c cg l V → V.cell? ⟨g, o + l.length, none⟩ = some (.string ⟨#[115, 112, 97, 114, 101]⟩) := by
  obtain ⟨a', c', e, hc, hr⟩ := h.cop
  obtain ⟨g, o, rfl, _, hce⟩ := Rd.get hr (by simp)
  injection e with e1 e2 e3
  subst e1
  refine ⟨g, o, rfl, fun V hV => ?_⟩
  obtain ⟨a2, c2, e2, _, hr2⟩ := hV.cop
  obtain ⟨g2, o2, e3, _, hce2⟩ := Rd.get hr2 (by simp)
  injection e2 with e4 _ _
  rw [← e4] at e3
  injection e3 with e3
  injection e3 with e5 e6
  subst e5 e6
  exact hce2 l.length spare (by simp)
theorem nr_low {B B2 : Nat} {w w' : World} {v : Value} {l : List Tab.Bs} (h : NR B w v l) (b : Below B2 w w') (hh : w.heap.size ≤ B2) : NR B w' v l := h.keep fun k hk _ => b.block k (by omega)
set_option maxHeartbeats 8000000 in
set_option maxRecDepth 100000 in
theorem keysl_call {w : World} {v : Value} {l : List Tab.Bs} (h : SL (fun k => k < w.heap.size) w v l) (hl : l.length * 16 ≤ 140737488351232) (hb : ∀ x ∈ l, x.length < 9223372036854775808) : Calls Try.prog 6 #[v] w fun e w' => e = .returned (.bool true) ∧ Below w.heap.size w w' := by
  obtain ⟨a, c, rfl, hc, hr⟩ := h
  have H0 := hid_of (show SL (fun k => k < w.heap.size) w (.slice a l.length c) l from ⟨a, c, rfl, hc, hr⟩)
  obtain ⟨v1, w1, hr1, row1, b1⟩ := app_any (c := c) (show NR w.heap.size w (.slice none 0 0) [] from .inl ⟨rfl, rfl⟩) hr (.inl (by simp; omega)) (Nat.le_refl _) 32
  simp only [List.nil_append] at row1
  obtain ⟨v2, w2, hr2, row2, b2⟩ := app_one spare row1 (by omega) b1.size 32
  obtain ⟨ag, cg, rfl, hcg⟩ := row2.shape
  obtain ⟨a1, c1, rfl, hc1⟩ := row1.shape
  have hb2 := b1.trans b2
  have HG2 : Hid (Gk w w2.heap.size a ag c cg l w2) := hid_of ⟨hb2, (H0.out.keep (fun k hk _ => hb2.block k hk)).mono (fun k _ hk => Nat.lt_of_lt_of_le hk hb2.size), by
    have h1 : SL (fun k => k < w2.heap.size) w2 (.slice ag (l ++ [spare]).length cg) (l ++ [spare]) := by
      obtain ⟨a', c', e, hc', hr'⟩ := row2.sl
      exact ⟨a', c', e, hc', hr'.lt.mono fun k _ hk => hk.2⟩
    rwa [List.length_append] at h1, hb2.size, Nat.le_refl _⟩
  have hcg2 : l.length + 1 ≤ cg := by rw [List.length_append] at hcg; simpa using hcg
  rw [List.length_append] at hr2
  change _ = Result.ok (Value.slice ag (l.length + 1) cg) w2 at hr2
  have HK := hid_of (keys_call HG2.out.cut (by omega) hb)
  have HKL := hid_of (keys_len l)
  have HRK : Hid (∀ W, SL (fun k => k < w2.heap.size) W (.slice a l.length c) l → Calls Try.prog 19 #[.slice a l.length c] W (KeysE W l)) := hid_of fun W h => rkeys_call h (by omega) hb
  obtain ⟨L, HL⟩ : ∃ L, Hid (L = l.length) := ⟨_, hid_of rfl⟩
  obtain ⟨B, HB⟩ : ∃ B, Hid (B = w2.heap.size) := ⟨_, hid_of rfl⟩
  have HSa : Hid (∀ (G G' : Nat → Prop) W u v x y, SL G W u x → SL G' W v y → x = y → x.length ≤ 140737488355328 → Calls Try.prog 18 #[u, v] W fun e w' => e = .returned (.bool true) ∧ ∃ m, w' = W.drewN m) := hid_of fun G G' W u v x y h1 h2 h3 h4 => same_true h1 h2 h3 h4
  have H5 := hid_of awake_call
  have hcu : ∀ W : World, (Instr.slice 32 (.slice ag (l.length + 1) cg) none (some (.int .i64 (l.length : Int))) none).run Try.prog W = .ok (.slice ag l.length cg) W := fun W => cut_hi ag (l.length + 1) cg l.length _ rfl (by omega) W
  obtain ⟨g, o, rfl, hcell⟩ := HG2.out.last
  rw [← HB.out] at HG2 HRK hcell
  have hlb : l.length * 16 ≤ 140737488351232 := hl
  rw [← HL.out] at hcu hr1 hr2 hlb hcg2 HK hcell HRK ⊢
  clear hr hc row1 row2 b1 b2 hb2 hl hb hcg hc1
  simp only [V, spare] at hr2
  rw [show mk [115, 112, 97, 114, 101] = ⟨#[115, 112, 97, 114, 101]⟩ from rfl] at hr2
  have HCell := hid_of hcell
  clear hcell
  go_enter Try.func6, Try.ntmps6
  go_wp2_with (first
    | (at_builtin; refine wpl_eq rfl _ _ 32 32 rfl (.slice none 0 0) (.slice a L c) (.slice a1 L c1) _ w1 rfl rfl hr1 ?_)
    | (at_builtin; refine wpl_eq rfl _ _ 32 32 rfl (.slice a1 L c1) (.slice (some ⟨w1.heap.size, 0, none⟩) 1 1) (.slice (some ⟨g, o, none⟩) (L + 1) cg) _ w2 rfl rfl hr2 ?_))
  refine HK.out.mono ?_
  rintro e w3 ⟨lv, rfl, row3, b3⟩
  have HG3 := hid_of (HG2.out.low (by rw [HB.out]; exact b3))
  obtain ⟨la, lc, rfl, hlc⟩ := row3.shape
  have HR3 := hid_of (show NR B w3 _ _ from by rw [HB.out]; exact row3)
  obtain ⟨K, HKK⟩ : ∃ K, Hid (K = (keysS l).length) := ⟨_, hid_of rfl⟩
  have hKL : K ≤ L := by rw [HKK.out, HL.out]; exact HKL.out
  rw [← HKK.out] at HR3 ⊢
  clear row3 b3 hlc HK
  go_wp2_with fail
  refine (HRK.out w3 (by have := HG3.out.args; rw [← HL.out] at this; exact this)).mono ?_
  rintro e w4 ⟨rv, rfl, row4, b4⟩
  have HG4 := hid_of (HG3.out.low (b4.mono HG3.out.size))
  have HR4 := hid_of (HR3.out.keep (fun k hk _ => b4.block k hk))
  obtain ⟨ra, rc, rfl, hrc⟩ := row4.shape
  have HS4 := hid_of (HSa.out _ _ w4 (.slice la K lc) (.slice ra (keysS l).length rc) (keysS l) (keysS l) HR4.out.sl row4.sl rfl (by rw [← HKK.out]; omega))
  rw [← HKK.out] at HS4 ⊢
  clear row4 b4 hrc HRK
  go_wp2_with fail
  refine HS4.out.mono ?_
  rintro e w5 ⟨rfl, m5, hw5⟩
  have HG5 : Hid (Gk w B a (some ⟨g, o, none⟩) c cg l w5) := hid_of (by rw [hw5]; exact HG4.out.drewN m5)
  have HR5 : Hid (NR B w5 (.slice la K lc) (keysS l)) := hid_of (by rw [hw5]; exact HR4.out.drewN m5)
  have hcu5 := hcu w5
  have HS5 := hid_of (HSa.out _ _ w5 _ _ l l HG5.out.cut HG5.out.args rfl (by rw [← HL.out]; omega))
  rw [← HL.out] at HS5
  clear hw5 HS4
  go_wp2_with fail
  refine HS5.out.mono ?_
  rintro e w6 ⟨rfl, m6, hw6⟩
  have HG6 : Hid (Gk w B a (some ⟨g, o, none⟩) c cg l w6) := hid_of (by rw [hw6]; exact HG5.out.drewN m6)
  have HR6 : Hid (NR B w6 (.slice la K lc) (keysS l)) := hid_of (by rw [hw6]; exact HR5.out.drewN m6)
  have c6 := HCell.out w6 HG6.out
  clear hw6 hcu5 HS5
  go_wp2_with fail
  refine (H5.out w6).mono ?_
  rintro e w7 ⟨rfl, b7⟩
  have HG7 := hid_of (HG6.out.low (b7.mono HG6.out.size))
  have HR7 := hid_of (HR6.out.keep (fun k hk _ => b7.block k hk))
  clear b7 c6
  go_wp2_with fail
  go_loopg [5] K (fun gk s5 wx => ∃ j : Nat, j ≤ K ∧ K ≤ j + gk ∧ s5 = .int .i64 (j : Int) ∧ Hid (Gk w B a (some ⟨g, o, none⟩) c cg l wx ∧ ∃ ks, ks.length = K ∧ NR B wx (.slice la K lc) ks))
  case atStart => exact ⟨0, by omega, by omega, rfl, hid_of ⟨HG7.out, _, HKK.out.symm, HR7.out⟩⟩
  case round =>
    obtain ⟨j, hj, hgk, rfl, I⟩ := hrel
    by_cases hlt : j < K
    · obtain ⟨g', rfl⟩ : ∃ g', gk = g' + 1 := ⟨gk - 1, by omega⟩
      obtain ⟨hG, ks, hks, hN⟩ := I.out
      obtain ⟨gl, rfl, hgl, ⟨y, hy⟩, hfz, hN2⟩ := nr_set hN j (by omega) [115, 112, 111, 105, 108, 116]
      have HX := hid_of (And.intro (hG.low (by
        have := (Below.refl B wr).setCell (p := ⟨gl, j, none⟩) hgl (V [115, 112, 111, 105, 108, 116])
        exact this)) (⟨_, by rw [List.length_set]; exact hks, hN2⟩ : ∃ ks, ks.length = K ∧ NR B (wr.setCell ⟨gl, j, none⟩ (V [115, 112, 111, 105, 108, 116])) (.slice (some ⟨gl, 0, none⟩) K lc) ks))
      have w1' : IntKind.i64.wrap ((j : Int) + 1) = (j : Int) + 1 := IntWalk.i64_in _ (by omega)
      clear hG hN hN2 hks
      simp only [V] at hy HX
      rw [show mk [115, 112, 111, 105, 108, 116] = ⟨#[115, 112, 111, 105, 108, 116]⟩ from rfl] at HX
      generalize mk y = Y at *
      go_wp2_with fail
      go_roundg g'
      case measure => omega
      case rel => exact ⟨j + 1, by omega, by omega, by simp, HX⟩
    · clear HG7 HR7 HG2 HG3 HG4 HG5 HG6 HR3 HR4 HR5 HR6
      have d1 : ¬ (j : Int) < (K : Int) := by omega
      obtain ⟨hG, ks, hks, hN⟩ := I.out
      have HI : Hid (Gk w B a (some ⟨g, o, none⟩) c cg l wr ∧ ∃ ks, ks.length = K ∧ NR B wr (.slice la K lc) ks) := hid_of ⟨hG, ks, hks, hN⟩
      clear hG hks hN I
      go_wp2_with fail
      go_loopg [4, 6] 9 (fun gk s4 s6 wx => ∃ (t : Nat) (xa : Option Addr) (xc : Nat), t ≤ 9 ∧ 9 ≤ t + gk ∧ s4 = .slice xa (K + t) xc ∧ s6 = .int .i64 (t : Int) ∧ Hid (Gk w B a (some ⟨g, o, none⟩) c cg l wx ∧ ∃ ks, ks.length = K + t ∧ NR B wx (.slice xa (K + t) xc) ks))
      case atStart => exact ⟨0, la, lc, by omega, by omega, by simp, rfl, hid_of HI.out⟩
      case round =>
        obtain ⟨t, xa, xc, ht, hgt, rfl, rfl, I⟩ := hrel
        obtain ⟨hG, ks, hks, hN⟩ := I.out
        by_cases ht9 : t < 9
        · obtain ⟨g', rfl⟩ : ∃ g', gk = g' + 1 := ⟨gk - 1, by omega⟩
          obtain ⟨v8, w8, hr8, row8, b8⟩ := app_one [98, 101, 104, 105, 110, 100] hN (by rw [hks]; omega) hG.size 32
          obtain ⟨xa8, xc8, rfl, _⟩ := row8.shape
          have hlen : (ks ++ [[98, 101, 104, 105, 110, 100]]).length = K + (t + 1) := by rw [List.length_append, hks]; rfl
          have HX := hid_of (And.intro (hG.low b8) (⟨_, hlen, by rw [hlen] at row8; exact row8⟩ : ∃ ks, ks.length = K + (t + 1) ∧ NR B w8 (.slice xa8 (K + (t + 1)) xc8) ks))
          rw [hlen] at hr8
          simp only [V] at hr8
          rw [show mk [98, 101, 104, 105, 110, 100] = ⟨#[98, 101, 104, 105, 110, 100]⟩ from rfl] at hr8
          have w1' : IntKind.i64.wrap ((t : Int) + 1) = (t : Int) + 1 := IntWalk.i64_in _ (by omega)
          have d2 : decide ((t : Int) < 9) = true := decide_eq_true (by omega)
          clear hG hN hks row8 b8 hlen I HI
          go_wp2_with (at_builtin; refine wpl_eq rfl _ _ 32 32 rfl (.slice xa (K + t) xc) (.slice (some ⟨wr.heap.size, 0, none⟩) 1 1) (.slice xa8 (K + (t + 1)) xc8) _ w8 rfl rfl hr8 ?_)
          go_roundg g'
          case measure => omega
          case rel => exact ⟨t + 1, xa8, xc8, by omega, by omega, rfl, by simp, HX⟩
        · have d2 : decide ((t : Int) < 9) = false := decide_eq_false (by omega)
          have HG := hid_of hG
          have HSz := hid_of (HSa.out _ _ wr _ _ l l hG.cut hG.args rfl (by rw [← HL.out]; omega))
          rw [← HL.out] at HSz
          have hcuz := hcu wr
          clear hG hN hks I HI
          go_wp2_with fail
          refine HSz.out.mono ?_
          rintro e wz ⟨rfl, mz, hwz⟩
          have HGz : Hid (Gk w B a (some ⟨g, o, none⟩) c cg l wz) := hid_of (by rw [hwz]; exact HG.out.drewN mz)
          have cz := HCell.out wz HGz.out
          clear hwz hcuz HSz
          go_wp2_with fail
          go_ret
          exact ⟨rfl, HGz.out.bel⟩
end Go.Proofs.Ytgmnmcaclpfknaa.LawK
