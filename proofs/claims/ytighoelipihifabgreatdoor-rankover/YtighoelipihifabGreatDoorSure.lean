/- The law's own: twin, same; what must come whatever the input is. -/
import Derived.Test.YtighoelipihifabGreatDoorOf
import Derived.Test.YtighoelipihifabGreatDoorParse
import Derived.Test.YtighoelipihifabGreatDoorLaidErr
namespace Go.Proofs.YtighoelipihifabGreatDoor.Sure
open Go.RowKit Go.Maps Go.Sort
open Go.Proofs.YtighoelipihifabGreatDoor.MapMath
open Go.Proofs.YtighoelipihifabGreatDoor.RankMath
open Go.Proofs.YtighoelipihifabGreatDoor.RankMath2
open Go.Proofs.YtighoelipihifabGreatDoor.RankMath3
open Go.Proofs.YtighoelipihifabGreatDoor.Base
open Go.Proofs.YtighoelipihifabGreatDoor.Cmp
open Go.Proofs.YtighoelipihifabGreatDoor.Neq
open Go.Proofs.YtighoelipihifabGreatDoor.Sorts
open Go.Proofs.YtighoelipihifabGreatDoor.Rank1
open Go.Proofs.YtighoelipihifabGreatDoor.Run
open Go.Proofs.YtighoelipihifabGreatDoor.Bound
open Go.Proofs.YtighoelipihifabGreatDoor.Seek
open Go.Proofs.YtighoelipihifabGreatDoor.Scores
open Go.Proofs.YtighoelipihifabGreatDoor.Names
open Go.Proofs.YtighoelipihifabGreatDoor.Of
open Go.Proofs.YtighoelipihifabGreatDoor.Parse (Has)
set_option linter.unusedVariables false

theorem take_ext {a b : EL} (hl : a.length = b.length) (h : ∀ i (ha : i < a.length) (hb : i < b.length), a[i]'ha = b[i]'hb) : a = b := List.ext_getElem hl fun i h1 h2 => h i h1 h2
set_option maxHeartbeats 2000000 in
set_option maxRecDepth 100000 in
theorem same_call (va vb : Value) (a b : EL) (w : World) (ha : FS w va a) (hb : FS w vb b) (hn : a.length ≤ big) (hnb : b.length ≤ big) : Calls Tryz.prog 11 #[va, vb] w fun e w' => e = .returned (.bool (decide (a = b))) ∧ Below w.heap.size w w' := by
  have HA := hid_of ha
  have HB := hid_of hb
  obtain ⟨aa, ca, rfl, hca, _⟩ := ha
  obtain ⟨ab, cb, rfl, hcb, _⟩ := hb
  by_cases hl : a.length = b.length
  · have g0 : ((a.length : Int) != (b.length : Int)) = false := by simp; omega
    have HL := hid_of hl
    clear hl
    go_enter Tryz.func11, Tryz.ntmps11
    go_wp2_with fail
    go_loopg [5] a.length (fun g si wx => ∃ k : Nat, k ≤ a.length ∧ a.length ≤ k + g ∧ si = .int .i64 (k : Int) ∧ Hid (∀ i (h1 : i < a.length) (h2 : i < b.length), i < k → a[i]'h1 = b[i]'h2) ∧ Hid (Below w.heap.size w wx))
    case atStart => exact ⟨0, by omega, by omega, rfl, hid_of (fun i _ _ hi => by omega), hid_of (Below.refl _ _)⟩
    case round =>
      obtain ⟨k, hk, hg, rfl, HE, HBx⟩ := hrel
      by_cases hlt : k < a.length
      · obtain ⟨g', rfl⟩ : ∃ g', gk = g' + 1 := ⟨gk - 1, by omega⟩
        have hlb : k < b.length := by have := HL.out; omega
        obtain ⟨ga, oa, rfl, hata⟩ := (HA.out.below HBx.out).at hlt
        obtain ⟨gb, ob, rfl, hatb⟩ := (HB.out.below HBx.out).at hlb
        obtain ⟨c0, c1⟩ := hata k hlt
        obtain ⟨d0, d1⟩ := hatb k hlb
        have g1 : (k : Int) < (a.length : Int) := by omega
        have g2 : (k : Int) < (b.length : Int) := by omega
        have e2 : IntKind.i64.wrap ((k : Int) + 1) = (k : Int) + 1 := IntWalk.i64_in _ (by unfold big at hn; omega)
        have hne := neqE (a[k]'hlt) (b[k]'hlb)
        by_cases hq : a[k]'hlt = b[k]'hlb
        · rw [decide_eq_false (by simpa using hq)] at hne
          have HE2 : Hid (∀ i (h1 : i < a.length) (h2 : i < b.length), i < k + 1 → a[i]'h1 = b[i]'h2) := hid_of fun i h1 h2 hi => by
            by_cases e : i = k
            · subst e; exact hq
            · exact HE.out i h1 h2 (by omega)
          clear hq hata hatb
          generalize mk (a[k]'hlt).1 = X at *
          generalize (a[k]'hlt).2 = xx at *
          generalize mk (b[k]'hlb).1 = Y at *
          generalize (b[k]'hlb).2 = yy at *
          go_wp2_with fail
          go_quiet (fail)
          go_wp2_with fail
          go_roundg g'
          case measure => omega
          case rel => exact ⟨k + 1, by omega, by omega, by rw [show ((k + 1 : Nat) : Int) = (k : Int) + 1 from by omega], HE2, hid_of (bdrew HBx.out nq)⟩
        · rw [decide_eq_true (by simpa using hq)] at hne
          have HN : Hid (¬ a = b) := hid_of fun e => hq (by subst e; rfl)
          clear hq hata hatb
          generalize mk (a[k]'hlt).1 = X at *
          generalize (a[k]'hlt).2 = xx at *
          generalize mk (b[k]'hlb).1 = Y at *
          generalize (b[k]'hlb).2 = yy at *
          go_wp2_with fail
          go_quiet (fail)
          go_wp2_with fail
          go_ret
          exact ⟨ret_b (decide_eq_false HN.out).symm, bdrew HBx.out nq⟩
      · have gi : ¬ (k : Int) < (a.length : Int) := by omega
        have HN : Hid (a = b) := hid_of (take_ext HL.out fun i h1 h2 => HE.out i h1 h2 (by omega))
        go_wp2_with fail
        go_ret
        exact ⟨ret_b (decide_eq_true HN.out).symm, HBx.out⟩
  · have g0 : ((a.length : Int) != (b.length : Int)) = true := by simp; omega
    have HN : Hid (¬ a = b) := hid_of fun e => hl (by rw [e])
    clear hl
    go_enter Tryz.func11, Tryz.ntmps11
    go_wp2_with fail
    go_ret
    exact ⟨ret_b (decide_eq_false HN.out).symm, Below.refl _ _⟩
theorem RK.mono {B B' b : Nat} {l : EL} {w : World} (h : RK B b l w) (hB : B' ≤ B) : RK B' b l w := by
  obtain ⟨m, t, ml, h⟩ := h
  exact ⟨m, t, ml, { h with bb := Nat.le_trans hB h.bb, mb := Nat.le_trans hB h.mb, tb := fun k hk => Nat.le_trans hB (h.tb k hk) }⟩
/- a box of a bound that is filled -/
theorem box4 {w : World} {g : Nat} {cs : Array Value} {t : TypeId} (h : w.heap[g]? = some (.cells cs t (0, 0))) (hc : cs.size = 4) (a b c d : Value) :
    ((((w.setCell ⟨g, 0, none⟩ a).setCell ⟨g, 1, none⟩ b).setCell ⟨g, 2, none⟩ c).setCell ⟨g, 3, none⟩ d).cell? ⟨g, 0, none⟩ = some a ∧ ((((w.setCell ⟨g, 0, none⟩ a).setCell ⟨g, 1, none⟩ b).setCell ⟨g, 2, none⟩ c).setCell ⟨g, 3, none⟩ d).cell? ⟨g, 1, none⟩ = some b ∧ ((((w.setCell ⟨g, 0, none⟩ a).setCell ⟨g, 1, none⟩ b).setCell ⟨g, 2, none⟩ c).setCell ⟨g, 3, none⟩ d).cell? ⟨g, 2, none⟩ = some c ∧ ((((w.setCell ⟨g, 0, none⟩ a).setCell ⟨g, 1, none⟩ b).setCell ⟨g, 2, none⟩ c).setCell ⟨g, 3, none⟩ d).cell? ⟨g, 3, none⟩ = some d := by
  have h4 := set_at (i := 3) (set_at (i := 2) (set_at (i := 1) (set_at (i := 0) h a) b) c) d
  refine ⟨(Lib.cell_of_heap h4 0).trans ?_, (Lib.cell_of_heap h4 1).trans ?_, (Lib.cell_of_heap h4 2).trans ?_, (Lib.cell_of_heap h4 3).trans ?_⟩ <;> simp [hc]
def zB : Obj := .cells #[.int .i64 0, .bool false, .int .i64 0, .string ⟨#[]⟩] 59
theorem zeroB (w : World) : (zeroValue 59).run Tryz.prog w = .ok (.agg #[.int .i64 0, .bool false, .int .i64 0, .string ⟨#[]⟩]) w := by kernel_rfl
set_option maxHeartbeats 2000000 in
set_option maxRecDepth 100000 in
theorem ps5 (w : World) (hh : Has w) : Calls Tryz.prog 26 #[.string ⟨#[40, 53]⟩] w fun e w' => e = .returned (.tuple #[.agg #[.int .i64 0, .bool true, .int .i64 5, .string ⟨#[]⟩], .int .i64 0]) ∧ Below w.heap.size w w' := by
  obtain ⟨V, hV⟩ : ∃ V, V = w.alloc zB := ⟨_, rfl⟩
  have bV : Below w.heap.size w V := by rw [hV]; exact bnew w _
  have H1 := hid_of (Parse.parse_any ⟨#[53]⟩ V 5 0 (by decide) (.inl ⟨by decide +kernel, rfl⟩) (hh.later bV))
  have H2 := hid_of (isScore_call 5)
  rw [show decide (May 5) = true from by decide] at H2
  have HX : Hid (∀ W, Below V.heap.size V W → W.heap[w.heap.size]? = some (.cells #[.int .i64 0, .bool false, .int .i64 0, .string ⟨#[]⟩] 59 (0, 0))) := hid_of fun W hW => (hW.block _ (by rw [hV]; simp)).trans (by rw [hV]; exact heap_alloc_new w zB)
  have HB := hid_of bV
  have HV := hid_of hV
  clear hV bV hh
  unfold zB at *
  go_enter Tryz.func26, Tryz.ntmps26
  go_wp2_with fail
  rw [← HV.out]
  refine H1.out.mono ?_
  rintro e w1 hw1
  obtain ⟨rfl, b1⟩ := hw1
  have hx := HX.out w1 b1
  have x0 : w1.cell? ⟨w.heap.size, 0, none⟩ = some (.int .i64 0) := Lib.cell_of_heap hx 0
  have x1 : w1.cell? ⟨w.heap.size, 1, none⟩ = some (.bool false) := Lib.cell_of_heap hx 1
  have x2 : w1.cell? ⟨w.heap.size, 2, none⟩ = some (.int .i64 0) := Lib.cell_of_heap hx 2
  have x3 : w1.cell? ⟨w.heap.size, 3, none⟩ = some (.string ⟨#[]⟩) := Lib.cell_of_heap hx 3
  have y0 : w1.frozen? ⟨w.heap.size, 0, none⟩ = false := Lib.frozen_of_heap hx 0
  have y1 : w1.frozen? ⟨w.heap.size, 1, none⟩ = false := Lib.frozen_of_heap hx 1
  have y2 : w1.frozen? ⟨w.heap.size, 2, none⟩ = false := Lib.frozen_of_heap hx 2
  have y3 : w1.frozen? ⟨w.heap.size, 3, none⟩ = false := Lib.frozen_of_heap hx 3
  have HXX := hid_of hx
  have HB1 := hid_of (Base.bel HB.out b1 (Nat.le_refl _))
  clear b1 hx
  go_wp2_with fail
  refine (H2.out w1).mono ?_
  rintro e w2 hw2
  obtain ⟨rfl, hww⟩ := hw2
  rw [hww]
  clear hww w2
  go_wp2_with fail
  obtain ⟨f0, f1, f2, f3⟩ := box4 HXX.out rfl (.int .i64 0) (.bool true) (.int .i64 5) (.string ⟨#[]⟩)
  refine ⟨rfl, .tuple #[.agg #[.int .i64 0, .bool true, .int .i64 5, .string ⟨#[]⟩], .int .i64 0], ?_, rfl, (((HB1.out.setCell (Nat.le_refl _) _).setCell (Nat.le_refl _) _).setCell (Nat.le_refl _) _).setCell (Nat.le_refl _) _⟩
  simp [results, Tryz.results26, go_sem, f0, f1, f2, f3]
set_option maxHeartbeats 2000000 in
set_option maxRecDepth 100000 in
theorem pnx (w : World) : Calls Tryz.prog 27 #[.string ⟨#[91, 120]⟩] w fun e w' => e = .returned (.tuple #[.agg #[.int .i64 0, .bool false, .int .i64 0, .string ⟨#[120]⟩], .int .i64 0]) ∧ Below w.heap.size w w' := by
  go_enter Tryz.func27, Tryz.ntmps27
  go_wp2_with fail
  have he : (⟨#[91, 120]⟩ : ByteArray).extract 1 2 = ⟨#[120]⟩ := by decide +kernel
  rw [he]
  refine ⟨rfl, .tuple #[.agg #[.int .i64 0, .bool false, .int .i64 0, .string ⟨#[120]⟩], .int .i64 0], ?_, rfl, bnew w _⟩
  simp [results, Tryz.results27, go_sem]
/- what must come -/
abbrev L0 : EL := [([98], 2), ([97], 1)]
abbrev L1 : EL := [([97], 1), ([98], 2)]
abbrev L2 : EL := [([97], 1), ([98], 2), ([99], 2)]
abbrev Lb : EL := [([97], 9007199254740993)]
abbrev two : Bnd := ⟨0, false, 2, []⟩
abbrev inf1 : Bnd := ⟨-1, false, 0, []⟩
abbrev na : Bnd := ⟨0, false, 0, [97]⟩
theorem eqB5 (w : World) : (binOp .eql 59 (.agg #[.int .i64 0, .bool true, .int .i64 5, .string ⟨#[]⟩]) (.agg #[.int .i64 0, .bool true, .int .i64 5, .string ⟨#[]⟩])).run Tryz.prog w = .ok (.bool true) w := by kernel_rfl
theorem eqBx (w : World) : (binOp .eql 59 (.agg #[.int .i64 0, .bool false, .int .i64 0, .string ⟨#[120]⟩]) (.agg #[.int .i64 0, .bool false, .int .i64 0, .string ⟨#[120]⟩])).run Tryz.prog w = .ok (.bool true) w := by kernel_rfl
theorem eqP (a : Nat) (w : World) : (binOp .eql 23 (.pointer (some ⟨a, 0, none⟩)) (.pointer none)).run Tryz.prog w = .ok (.bool false) w := by kernel_rfl
theorem fs_lit (w : World) (l : EL) (hl : l ≠ []) : FS (w.alloc (.cells (l.flatMap eCells).toArray 35)) (.slice (some ⟨w.heap.size, 0, none⟩) l.length l.length) l := by
  refine ⟨_, _, rfl, Nat.le_refl _, Or.inr ⟨w.heap.size, 0, rfl, fun k hk => ?_⟩⟩
  have h := heap_alloc_new w (.cells (l.flatMap eCells).toArray 35)
  obtain ⟨d0, d1⟩ := fflat_at l k hk
  rw [Nat.zero_add]
  exact ⟨(Lib.cell_of_heap h _).trans (by simpa using d0), (Lib.cell_of_heap h _).trans (by simpa using d1)⟩
structure St (B : Nat) (w0 : World) (b : Nat) (l : EL) (w : World) : Prop where
  rk : RK B b l w
  bel : Below B w0 w
  le : B ≤ w0.heap.size
theorem St.below {B : Nat} {w0 : World} {b : Nat} {l : EL} {w w' : World} (h : St B w0 b l w) (hb : Below w.heap.size w w') : St B w0 b l w' := ⟨h.rk.below hb, Base.bel h.bel hb h.le, h.le⟩
theorem St.ev {B : Nat} {w0 : World} {b : Nat} {l l' : EL} {w w' : World} (h : St B w0 b l w) (hr : RK B b l' w') (he : Ev B w w') : St B w0 b l' w' := ⟨hr, h.bel.trans (he.below (Nat.le_trans h.le h.bel.size)), h.le⟩
theorem St.hB {B : Nat} {w0 : World} {b : Nat} {l : EL} {w : World} (h : St B w0 b l w) : B ≤ w.heap.size := Nat.le_trans h.le h.bel.size
set_option maxHeartbeats 8000000 in
set_option maxRecDepth 100000 in
theorem sure_call (w : World) (hh : Has w) : Calls Tryz.prog 8 #[] w fun e w' => e = .returned (.bool true) ∧ Below w.heap.size w w' := by
  have HH := hid_of hh
  have BA := hid_of (bnew w (.cells (L0.flatMap eCells).toArray 35))
  have H1 := hid_of (of_call _ L0 _ (fs_lit w L0 (by simp)) (by decide) (by decide))
  rw [show (L0.flatMap eCells).toArray = #[.string ⟨#[98]⟩, .int .i64 2, .string ⟨#[97]⟩, .int .i64 1] from rfl] at H1 BA
  rw [show L0.length = 2 from rfl] at H1
  clear hh
  go_enter Tryz.func8, Tryz.ntmps8
  go_wp2_with fail
  refine H1.out.mono ?_
  rintro e w1 ⟨b1, h1 | h1 | h1⟩
  · exact absurd (show AllMay L0 by decide) h1.1
  · exact absurd (show Uq L0 by decide) h1.2.1
  obtain ⟨_, _, b, rfl, r1⟩ := h1
  rw [show srtL L0 = L1 from by decide +kernel] at r1
  have S1 : Hid (St w.heap.size w b L1 w1) := hid_of ⟨RK.mono r1 BA.out.size, Base.bel BA.out b1 (Nat.le_refl _), Nat.le_refl _⟩
  clear r1 b1 H1 BA
  have BB := hid_of (bnew w1 (.cells (Lb.flatMap eCells).toArray 35))
  have H2 := hid_of (of_call _ Lb _ (fs_lit w1 Lb (by simp)) (by decide) (by decide))
  rw [show (Lb.flatMap eCells).toArray = #[.string ⟨#[97]⟩, .int .i64 9007199254740993] from rfl] at H2 BB
  rw [show Lb.length = 1 from rfl] at H2
  unfold ptr
  have qP := eqP b
  go_wp2_with fail
  refine H2.out.mono ?_
  rintro e w2 ⟨b2, h2 | h2 | h2⟩
  rotate_left
  · exact absurd h2.1 (show ¬ AllMay Lb by decide)
  · exact absurd h2.1 (show ¬ AllMay Lb by decide)
  obtain ⟨_, rfl⟩ := h2
  have S2 := hid_of (S1.out.below (Base.bel BB.out b2 (Nat.le_refl _)))
  clear b2 BB H2 S1
  have H3 := hid_of (set_call S2.out.rk [99] 2 (by decide) (by decide) (by decide))
  rw [show setE L1 [99] 2 = L2 from by decide +kernel, show ok L1 [99] = false from by decide +kernel, show mk [99] = ⟨#[99]⟩ from rfl] at H3
  unfold ptr at H3
  go_wp2_with fail
  refine H3.out.mono ?_
  rintro e w3 hw3
  obtain ⟨rfl, r3, e3⟩ := hw3
  have S3 := hid_of (S2.out.ev r3 e3)
  clear r3 e3 S2 H3
  have H4 := hid_of (place_call S3.out.rk [99] true (by decide) (by decide))
  rw [show placeS L2 [99] true = 0 from by decide +kernel, show ok L2 [99] = true from by decide +kernel, show mk [99] = ⟨#[99]⟩ from rfl] at H4
  unfold ptr at H4
  go_wp2_with fail
  refine H4.out.mono ?_
  rintro e w4 hw4
  obtain ⟨rfl, b4⟩ := hw4
  have S4 := hid_of (S3.out.below b4)
  clear b4 S3 H4
  have H5 := hid_of (score_call S4.out.rk [98] (by decide))
  rw [show valI L2 [98] = 2 from by decide +kernel, show ok L2 [98] = true from by decide +kernel, show mk [98] = ⟨#[98]⟩ from rfl] at H5
  unfold ptr at H5
  go_wp2_with fail
  refine H5.out.mono ?_
  rintro e w5 hw5
  obtain ⟨rfl, hww⟩ := hw5
  rw [hww]
  clear hww w5 H5
  have H6 := hid_of (ps5 w4 (HH.out.later S4.out.bel))
  go_wp2_with fail
  refine H6.out.mono ?_
  rintro e w6 hw6
  obtain ⟨rfl, b6⟩ := hw6
  have S6 := hid_of (S4.out.below b6)
  clear b6 S4 H6
  obtain ⟨V6, hV6⟩ : ∃ V, V = w6.alloc (.cells #[.int .i64 0, .bool true, .int .i64 5, .string ⟨#[]⟩] 59) := ⟨_, rfl⟩
  have bV6 : Below w6.heap.size w6 V6 := by rw [hV6]; exact bnew w6 _
  have c60 : V6.cell? ⟨w6.heap.size, 0, none⟩ = some (.int .i64 0) := by rw [hV6]; simp
  have c61 : V6.cell? ⟨w6.heap.size, 1, none⟩ = some (.bool true) := by rw [hV6]; simp
  have c62 : V6.cell? ⟨w6.heap.size, 2, none⟩ = some (.int .i64 5) := by rw [hV6]; simp
  have c63 : V6.cell? ⟨w6.heap.size, 3, none⟩ = some (.string ⟨#[]⟩) := by rw [hV6]; simp
  have S7 := hid_of (S6.out.below bV6)
  have HV6 := hid_of hV6
  clear hV6 bV6 S6
  have H7 := hid_of (pnx V6)
  go_wp2_with fail
  rw [← HV6.out]
  refine H7.out.mono ?_
  rintro e w8 hw8
  obtain ⟨rfl, b8⟩ := hw8
  have S8 := hid_of (S7.out.below b8)
  have x60 := cell_on b8 c60
  have x61 := cell_on b8 c61
  have x62 := cell_on b8 c62
  have x63 := cell_on b8 c63
  clear b8 S7 H7 c60 c61 c62 c63 HV6
  obtain ⟨V8, hV8⟩ : ∃ V, V = (w8.alloc (.cells #[.int .i64 0, .bool false, .int .i64 0, .string ⟨#[120]⟩] 59)).alloc (.cells #[.int .i64 0, .bool false, .int .i64 2, .string ⟨#[]⟩] 59) := ⟨_, rfl⟩
  have bV8 : Below w8.heap.size w8 V8 := by rw [hV8]; exact Base.bel (bnew w8 _) (bnew _ _) (Nat.le_refl _)
  have S9 := hid_of (S8.out.below bV8)
  have z60 := cell_on bV8 x60
  have z61 := cell_on bV8 x61
  have z62 := cell_on bV8 x62
  have z63 := cell_on bV8 x63
  rw [hV8] at z60 z61 z62 z63
  have q5 := eqB5
  have qx := eqBx
  have HT : Hid (∀ W, Below V8.heap.size V8 W → W.cell? ⟨w8.heap.size + 1, 0, none⟩ = some (.int .i64 0) ∧ W.cell? ⟨w8.heap.size + 1, 1, none⟩ = some (.bool false) ∧ W.cell? ⟨w8.heap.size + 1, 2, none⟩ = some (.int .i64 2) ∧ W.cell? ⟨w8.heap.size + 1, 3, none⟩ = some (.string ⟨#[]⟩)) := hid_of fun W hW => ⟨cell_on hW (by rw [hV8]; simp), cell_on hW (by rw [hV8]; simp), cell_on hW (by rw [hV8]; simp), cell_on hW (by rw [hV8]; simp)⟩
  have HV8 := hid_of hV8
  have H9 := hid_of (len_call S9.out.rk)
  rw [show ((L2.length : Nat) : Int) = 3 from rfl] at H9
  unfold ptr at H9
  clear hV8 bV8 S8 x60 x61 x62 x63
  go_wp2_with fail
  rw [← HV8.out]
  refine H9.out.mono ?_
  rintro e w9 hw9
  obtain ⟨rfl, hww⟩ := hw9
  rw [hww]
  clear hww w9 H9
  have H10 := hid_of (slice_call S9.out.rk 0 0 false (by decide) (by omega) (by omega) (by omega) (by omega))
  rw [show slS L2 0 0 false = [([97], 1)] from by decide +kernel] at H10
  unfold ptr at H10
  go_wp2_with fail
  refine H10.out.mono ?_
  rintro e w10 ⟨v10, rfl, o10, b10⟩
  have S10 := hid_of (S9.out.below b10)
  have T10 := hid_of b10
  have bb10 := bnew w10 (.cells ([([97], 1)].flatMap eCells : List Value).toArray 35)
  have H11 := hid_of (same_call v10 _ [([97], 1)] [([97], 1)] _ ((fs_row o10).below bb10) (fs_lit w10 [([97], 1)] (by simp)) (by decide) (by decide))
  rw [decide_eq_true rfl, show ([([97], 1)].flatMap eCells : List Value).toArray = #[.string ⟨#[97]⟩, .int .i64 1] from rfl] at H11
  rw [show ([([97], 1)] : EL).length = 1 from rfl] at H11
  have S11 := hid_of (S10.out.below bb10)
  have T11 : Hid (Below V8.heap.size V8 (w10.alloc (.cells ([([97], 1)].flatMap eCells : List Value).toArray 35))) := hid_of (Base.bel b10 bb10 (Nat.le_refl _))
  clear o10 b10 bb10 S9 H10
  go_wp2_with fail
  refine H11.out.mono ?_
  rintro e w11 hw11
  obtain ⟨rfl, b11⟩ := hw11
  have S12 := hid_of (S11.out.below b11)
  obtain ⟨t0, t1, t2, t3⟩ := HT.out w11 (Base.bel T11.out b11 (Nat.le_refl _))
  clear b11 S11 H11
  have H12 := hid_of (scores_call S12.out.rk two two false 0 (-1) (by decide))
  rw [show scS L2 two two false 0 (-1) = [([98], 2), ([99], 2)] from by decide +kernel] at H12
  unfold ptr bV at H12
  rw [show mk two.name = ⟨#[]⟩ from rfl] at H12
  go_wp2_with fail
  refine H12.out.mono ?_
  rintro e w13 ⟨v13, rfl, o13, b13⟩
  obtain ⟨a13, c13, hv13, _, _⟩ := fs_row o13
  rw [show ([([98], 2), ([99], 2)] : EL).length = 2 from rfl] at hv13
  subst hv13
  have S13 := hid_of (S12.out.below b13)
  clear o13 b13 S12 H12 t0 t1 t2 t3 HT T10 T11
  have H13 := hid_of (names_call S13.out.rk inf1 na false 0 9 (by decide))
  rw [show nmS L2 inf1 na false 0 9 = [([97], 1)] from by decide +kernel] at H13
  unfold ptr bV at H13
  rw [show mk inf1.name = ⟨#[]⟩ from rfl, show mk na.name = ⟨#[97]⟩ from rfl] at H13
  go_wp2_with fail
  refine H13.out.mono ?_
  rintro e w14 ⟨v14, rfl, o14, b14⟩
  obtain ⟨a14, c14, hv14, _, _⟩ := fs_row o14
  rw [show ([([97], 1)] : EL).length = 1 from rfl] at hv14
  subst hv14
  have S14 := hid_of (S13.out.below b14)
  clear o14 b14 S13 H13
  have H14 := hid_of (pop_call S14.out.rk 1 true (by decide) S14.out.hB)
  rw [show popS L2 (clampS 1 L2.length) true = [([99], 2)] from by decide +kernel, show leftS L2 (clampS 1 L2.length) true = L1 from by decide +kernel] at H14
  unfold ptr at H14
  go_wp2_with fail
  refine H14.out.mono ?_
  rintro e w15 ⟨v15, rfl, o15, r15, e15⟩
  have S15 := hid_of (S14.out.ev r15 e15)
  have bb15 := bnew w15 (.cells ([([99], 2)].flatMap eCells : List Value).toArray 35)
  have H15 := hid_of (same_call v15 _ [([99], 2)] [([99], 2)] _ ((fs_row o15).below bb15) (fs_lit w15 [([99], 2)] (by simp)) (by decide) (by decide))
  rw [decide_eq_true rfl, show ([([99], 2)].flatMap eCells : List Value).toArray = #[.string ⟨#[99]⟩, .int .i64 2] from rfl] at H15
  rw [show ([([99], 2)] : EL).length = 1 from rfl] at H15
  have S16 := hid_of (S15.out.below bb15)
  clear o15 r15 e15 bb15 S14 S15 H14
  go_wp2_with fail
  refine H15.out.mono ?_
  rintro e w16 hw16
  obtain ⟨rfl, b16⟩ := hw16
  have S17 := hid_of (S16.out.below b16)
  clear b16 S16 H15
  have H16 := hid_of (drop_call S17.out.rk [98] (by decide) (by decide))
  rw [show wout L1 [98] = [([97], 1)] from by decide +kernel, show ok L1 [98] = true from by decide +kernel, show mk [98] = ⟨#[98]⟩ from rfl] at H16
  unfold ptr at H16
  go_wp2_with fail
  refine H16.out.mono ?_
  rintro e w17 hw17
  obtain ⟨rfl, r17, e17⟩ := hw17
  have S18 := hid_of (S17.out.ev r17 e17)
  clear r17 e17 S17 H16
  have H17 := hid_of (list_call S18.out.rk (by decide))
  unfold ptr at H17
  go_wp2_with fail
  refine H17.out.mono ?_
  rintro e w18 ⟨v18, rfl, o18, b18⟩
  have S19 := hid_of (S18.out.below b18)
  have bb18 := bnew w18 (.cells ([([97], 1)].flatMap eCells : List Value).toArray 35)
  have H18 := hid_of (same_call v18 _ [([97], 1)] [([97], 1)] _ ((fs_row o18).below bb18) (fs_lit w18 [([97], 1)] (by simp)) (by decide) (by decide))
  rw [decide_eq_true rfl, show ([([97], 1)].flatMap eCells : List Value).toArray = #[.string ⟨#[97]⟩, .int .i64 1] from rfl] at H18
  rw [show ([([97], 1)] : EL).length = 1 from rfl] at H18
  have S20 := hid_of (S19.out.below bb18)
  clear o18 b18 bb18 S18 S19 H17
  go_wp2_with fail
  refine H18.out.mono ?_
  rintro e w19 hw19
  obtain ⟨rfl, b19⟩ := hw19
  have S21 := hid_of (S20.out.below b19)
  clear b19 S20 H18
  go_wp2_with fail
  go_ret
  exact ⟨rfl, S21.out.bel⟩
end Go.Proofs.YtighoelipihifabGreatDoor.Sure
