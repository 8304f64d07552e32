/- sure: what must come whatever the input is. -/
import Derived.Test.YtfkilbhhpipjbaaGreatDoorSureMath
namespace Go.Proofs.YtfkilbhhpipjbaaGreatDoor.Sure
open Go.RowKit
open Go.Proofs.YtfkilbhhpipjbaaGreatDoor.TextMath
open Go.Proofs.YtfkilbhhpipjbaaGreatDoor.ReqMath
open Go.Proofs.YtfkilbhhpipjbaaGreatDoor.Base
open Go.Proofs.YtfkilbhhpipjbaaGreatDoor.Line
open Go.Proofs.YtfkilbhhpipjbaaGreatDoor.Small
open Go.Proofs.YtfkilbhhpipjbaaGreatDoor.Append
open Go.Proofs.YtfkilbhhpipjbaaGreatDoor.Bulk
open Go.Proofs.YtfkilbhhpipjbaaGreatDoor.Bulk2
open Go.Proofs.YtfkilbhhpipjbaaGreatDoor.BulkAny
open Go.Proofs.YtfkilbhhpipjbaaGreatDoor.SplitC
open Go.Proofs.YtfkilbhhpipjbaaGreatDoor.Pend
open Go.Proofs.YtfkilbhhpipjbaaGreatDoor.Next
open Go.Proofs.YtfkilbhhpipjbaaGreatDoor.Feed
open Go.Proofs.YtfkilbhhpipjbaaGreatDoor.Whole
open Go.Proofs.YtfkilbhhpipjbaaGreatDoor.Lists
open Go.Proofs.YtfkilbhhpipjbaaGreatDoor.WriteC
open Go.Proofs.YtfkilbhhpipjbaaGreatDoor.SureMath
set_option linter.unusedVariables false
set_option maxRecDepth 100000 in
theorem limits_call (w : World) : Calls Tryz.prog 30 #[] w fun e w' => e = .returned (limV L0) ∧ Below w.heap.size w w' := by
  unfold limV L0
  go_enter Tryz.func30, Tryz.ntmps30
  go_wp2_with fail
  refine ⟨rfl, .agg #[.int .i64 10, .int .i64 3, .int .i64 32], by simp [results, Tryz.results30, go_sem], rfl, (Below.refl _ w).alloc (Nat.le_refl _) _⟩
theorem sr_new (w : World) (l : List (List UInt8)) (cs : Array Value) (n c : Nat) (hn : n = l.length) (hc : ∀ k (h : k < l.length), cs[k]? = some (.string (mk (l[k]'h)))) : SR (w.alloc (.cells cs 9)) (.slice (some ⟨w.heap.size, 0, none⟩) n c) l := by
  subst hn
  exact ⟨_, c, rfl, Or.inr ⟨w.heap.size, 0, rfl, fun k hk => by rw [Lib.cell_of_heap (heap_alloc_new w _), Nat.zero_add]; exact hc k hk⟩⟩
theorem alloc_b (w : World) (o : Obj) : Below w.heap.size w (w.alloc o) := (Below.refl _ w).alloc (Nat.le_refl _) o
theorem drew_b (w : World) (n : Nat) : Below w.heap.size w (w.drewN n) := (Fr.drewN (Fr.refl (fun _ => False) w) n).below (fun x hx => hx.elim)
theorem all3 (w : World) (v : Value) (h : AR w v [[[71, 69, 84], [97]], [[115, 101, 116], [107], [97, 32, 98]]]) :
    Calls Tryz.prog 11 #[v, .slice (some ⟨w.heap.size + 1 + 1, 0, none⟩) 2 2] (((w.alloc (.cells #[.string ⟨#[71, 69, 84]⟩, .string ⟨#[97]⟩] 9)).alloc (.cells #[.string ⟨#[115, 101, 116]⟩, .string ⟨#[107]⟩, .string ⟨#[97, 32, 98]⟩] 9)).alloc
      (.cells #[.slice (some ⟨w.heap.size, 0, none⟩) 2 2, .slice (some ⟨w.heap.size + 1, 0, none⟩) 3 3] 33)) fun e w' => e = .returned (.bool true) ∧ Below w.heap.size w w' := by
  let w1 := w.alloc (.cells #[.string ⟨#[71, 69, 84]⟩, .string ⟨#[97]⟩] 9)
  let w2 := w1.alloc (.cells #[.string ⟨#[115, 101, 116]⟩, .string ⟨#[107]⟩, .string ⟨#[97, 32, 98]⟩] 9)
  let w3 := w2.alloc (.cells #[.slice (some ⟨w.heap.size, 0, none⟩) 2 2, .slice (some ⟨w.heap.size + 1, 0, none⟩) 3 3] 33)
  have z1 : w1.heap.size = w.heap.size + 1 := by simp [w1]
  have z2 : w2.heap.size = w.heap.size + 1 + 1 := by simp [w2, w1]
  have b1 : Below w.heap.size w w1 := alloc_b _ _
  have b2 : Below w1.heap.size w1 w2 := alloc_b _ _
  have b3 : Below w2.heap.size w2 w3 := alloc_b _ _
  have s1 : SR w1 (.slice (some ⟨w.heap.size, 0, none⟩) 2 2) [[71, 69, 84], [97]] := sr_new w _ _ _ _ rfl (by
    intro k hk
    match k, hk with
    | 0, _ => rfl
    | 1, _ => rfl)
  have s2 : SR w2 (.slice (some ⟨w.heap.size + 1, 0, none⟩) 3 3) [[115, 101, 116], [107], [97, 32, 98]] := by
    have := sr_new w1 [[115, 101, 116], [107], [97, 32, 98]] #[.string ⟨#[115, 101, 116]⟩, .string ⟨#[107]⟩, .string ⟨#[97, 32, 98]⟩] 3 3 rfl (by
      intro k hk
      match k, hk with
      | 0, _ => rfl
      | 1, _ => rfl
      | 2, _ => rfl)
    rw [z1] at this
    exact this
  have hb := b1.trans (b2.mono b1.size) |>.trans (b3.mono (Nat.le_trans b1.size b2.size))
  have t1 := sr_below (sr_below s1 b2) b3
  have t2 := sr_below s2 b3
  have a3 : AR w3 (.slice (some ⟨w.heap.size + 1 + 1, 0, none⟩) 2 2) [[[71, 69, 84], [97]], [[115, 101, 116], [107], [97, 32, 98]]] := by
    refine ⟨_, 2, rfl, Or.inr ⟨w.heap.size + 1 + 1, 0, rfl, ?_⟩⟩
    have hc : w3.heap[w.heap.size + 1 + 1]? = some (.cells #[.slice (some ⟨w.heap.size, 0, none⟩) 2 2, .slice (some ⟨w.heap.size + 1, 0, none⟩) 3 3] 33 (0, 0)) := by rw [← z2]; exact heap_alloc_new w2 _
    intro k hk
    match k, hk with
    | 0, _ => exact ⟨_, by rw [Lib.cell_of_heap hc]; rfl, t1⟩
    | 1, _ => exact ⟨_, by rw [Lib.cell_of_heap hc]; rfl, t2⟩
  refine (all_call v _ _ _ w3 (ar_below h hb) a3 (by decide) (by decide)).mono ?_
  rintro e w' ⟨rfl, n, rfl⟩
  exact ⟨rfl, hb.trans ((drew_b w3 n).mono hb.size)⟩
theorem same1 (w : World) (v : Value) (h : SR w v [[80, 73, 78, 71]]) :
    Calls Tryz.prog 17 #[v, .slice (some ⟨w.heap.size, 0, none⟩) 1 1] (w.alloc (.cells #[.string ⟨#[80, 73, 78, 71]⟩] 9)) fun e w' => e = .returned (.bool true) ∧ Below w.heap.size w w' := by
  refine (same_call v _ _ _ _ (sr_below h (alloc_b _ _)) (sr_new w [[80, 73, 78, 71]] _ 1 1 rfl (by
      intro k hk
      match k, hk with
      | 0, _ => rfl)) (by decide)).mono ?_
  rintro e w' ⟨rfl, n, rfl⟩
  exact ⟨rfl, (alloc_b _ _).trans ((drew_b _ n).mono (by simp))⟩
theorem write1 (w : World) (h : Has w) :
    Calls Tryz.prog 18 #[.slice (some ⟨w.heap.size, 0, none⟩) 1 1] (w.alloc (.cells #[.string ⟨#[97]⟩] 9)) fun e w' => e = .returned (.string ⟨#[42, 49, 13, 10, 36, 49, 13, 10, 97, 13, 10]⟩) ∧ Below w.heap.size w w' := by
  have := write_call _ [[97]] (w.alloc (.cells #[.string ⟨#[97]⟩] 9)) (sr_new w [[97]] _ 1 1 rfl (by
      intro k hk
      match k, hk with
      | 0, _ => rfl)) (h.later (alloc_b _ _)) (by decide) (by decide) (by rw [write4]; decide)
  rw [write4] at this
  refine this.mono ?_
  rintro e w' ⟨rfl, hb⟩
  exact ⟨rfl, (alloc_b _ _).trans (hb.mono (by simp))⟩
theorem okL0 : okB L0.bulk L0.args L0.line = true := by decide
theorem no1 : C34 T1 := Or.inl (by decide)
theorem no2 : C34 T2 := Or.inl (by decide)
theorem no3 : C34 T3 := Or.inl (by decide)
set_option maxHeartbeats 8000000 in
set_option maxRecDepth 100000 in
theorem sure_call (w : World) (hh : Has w) : Calls Tryz.prog 14 #[] w fun e w' => e = .returned (.bool true) ∧ Below w.heap.size w w' := by
  have H0 := hid_of limits_call
  have HH := hid_of hh
  have HW1 := hid_of (fun w1 (h1 : Has w1) => whole_call L0 okL0 (mk T1) (by decide) w1 h1 no1)
  have HW2 := hid_of (fun w1 (h1 : Has w1) => whole_call L0 okL0 (mk T2) (by decide) w1 h1 no2)
  have HN := hid_of (fun w1 => new_ok L0 okL0 w1)
  clear hh
  unfold wh at HW1 HW2
  rw [show bs (mk T1) = T1 from rfl, whole1] at HW1
  dsimp only at HW1
  rw [show mk [] = ⟨#[]⟩ from rfl] at HW1
  rw [show bs (mk T2) = T2 from rfl] at HW2
  rw [whole2, show mk wBulk = (⟨#[98, 117, 108, 107]⟩ : ByteArray) from rfl] at HW2
  generalize (wholeS L0 T2).reqs = R2 at HW2
  generalize (wholeS L0 T2).used = N2 at HW2
  go_enter Tryz.func14, Tryz.ntmps14
  go_wp2_with fail
  refine (H0.out _).mono ?_
  rintro e w1 ⟨rfl, b1⟩
  have B1 : Hid (Below w.heap.size w w1) := b1
  clear b1
  unfold limV
  go_wp2_with fail
  refine (HW1.out _ (HH.out.later B1.out)).mono ?_
  rintro e w2 ⟨v1, rfl, a1, b2⟩
  have B2 : Hid (Below w.heap.size w w2) := B1.out.trans (b2.mono B1.out.size)
  have A1 := hid_of a1
  clear B1 b2 a1
  go_wp2_with fail
  refine (H0.out _).mono ?_
  rintro e w3 ⟨rfl, b3⟩
  have B3 : Hid (Below w.heap.size w w3) := B2.out.trans (b3.mono B2.out.size)
  replace A1 := hid_of (wa_below A1.out b3)
  clear B2 b3
  unfold limV
  go_wp2_with fail
  refine (HW2.out _ (HH.out.later B3.out)).mono ?_
  rintro e w4 ⟨v2, rfl, a2, b4⟩
  have B4 : Hid (Below w.heap.size w w4) := B3.out.trans (b4.mono B3.out.size)
  replace A1 := hid_of (wa_below A1.out b4)
  clear B3 b4 a2
  go_wp2_with fail
  refine (H0.out _).mono ?_
  rintro e w5 ⟨rfl, b5⟩
  have B5 : Hid (Below w.heap.size w w5) := B4.out.trans (b5.mono B4.out.size)
  replace A1 := hid_of (wa_below A1.out b5)
  clear B4 b5
  unfold limV
  go_wp2_with fail
  refine (HN.out _).mono ?_
  rintro e w6 ⟨b, rfl, hb, r6, b6⟩
  have B6 : Hid (Below w.heap.size w w6) := B5.out.trans (b6.mono B5.out.size)
  replace A1 := hid_of (wa_below A1.out b6)
  have hb1 : Hid (w.heap.size ≤ b) := Nat.le_trans B5.out.size hb
  have P1 : PS b L0 [] 0 (.slice none 0 0) (.slice none 0 0) w6 := ⟨⟨#[]⟩, 0, [], 0, 0, ⟨r6, BySl.nil _, World.ownsRow_nil _ _ _ _, Nat.le_refl _, rfl⟩, Nat.le_refl _, rfl, Or.inl ⟨rfl, rfl, rfl⟩, by simp⟩
  have HF := hid_of (feed_call b L0 [] 0 _ _ (mk T3) w6 P1 (by decide) (HH.out.later B6.out).size)
  have R6 := hid_of r6
  clear B5 b6 P1 hb r6
  go_wp2_with fail
  refine HF.out.mono ?_
  rintro e w7 ⟨rfl, lv7, p7, sb7, f7⟩
  have f7' : Fr (fun q => w.heap.size ≤ q) w6 w7 := f7.wide (fun q hq => hq.elim (fun e => by rw [e]; exact hb1.out) (fun e => by cases e))
  have B7 : Hid (Below w.heap.size w w7) := ((Fr.of_below (F := fun q => w.heap.size ≤ q) B6.out).trans f7').below (fun x hx => hx)
  have f7b : Fr (fun q => q = b) w6 w7 := f7.wide (fun q hq => hq.elim id (fun e => by cases e))
  replace A1 := hid_of (wa_one R6.out A1.out f7b)
  have HX := hid_of (next_one_call b L0 T3 0 lv7 (.slice none 0 0) w7 (lok_of okL0) p7 (by decide) (HH.out.later B7.out) (Nat.le_trans HH.out.size hb1.out) no3)
  rw [next3] at HX
  have R7 : Hid (∃ lv k wv wanted read used ft, RB b L0 lv k wv wanted read used ft w7) := by
    obtain ⟨t, k', ws, wanted, read, h1, _⟩ := p7
    exact ⟨_, _, _, _, _, _, _, h1.rb⟩
  clear p7 sb7 f7 f7' f7b R6 B6
  go_wp2_with fail
  refine HX.out.mono ?_
  rintro e w8 ⟨v8, rfl, q1, q2, lv8, q3, q4, q5⟩
  have q5b : Fr (fun q => q = b) w7 w8 := q5.wide (fun q hq => hq.elim id (fun e => by cases e))
  have B8 : Hid (Below w.heap.size w w8) := ((Fr.of_below (F := fun q => w.heap.size ≤ q) B7.out).trans (q5b.wide (fun q hq => by rw [hq]; exact hb1.out))).below (fun x hx => hx)
  obtain ⟨lvx, kx, wvx, wantedx, readx, usedx, ftx, hrx⟩ := R7.out
  have AA := hid_of (ar_wa (wa_one hrx A1.out q5b))
  have AS := hid_of (sr_ws q1)
  have HP : Hid (PS b L0 [] 6 lv8 (.slice none 0 0) w8) := q3
  clear hrx R7 q1 q2 q3 q4 q5 q5b A1 B7
  obtain ⟨a1, c1, rfl, _⟩ := AA.out
  obtain ⟨a8, c8, rfl, _⟩ := AS.out
  have H11 := hid_of (all3 w8 _ AA.out)
  clear AA
  go_wp2_with fail
  refine H11.out.mono ?_
  rintro e w9 ⟨rfl, b9⟩
  replace AS := hid_of (sr_below AS.out b9)
  replace HP := hid_of (ps_below HP.out b9)
  have B9 : Hid (Below w.heap.size w w9) := B8.out.trans (b9.mono B8.out.size)
  have H17 := hid_of (same1 w9 _ AS.out)
  clear b9 B8 AS H11 HX HF
  go_wp2_with fail
  refine H17.out.mono ?_
  rintro e w10 ⟨rfl, b10⟩
  replace HP := hid_of (ps_below HP.out b10)
  have B10 : Hid (Below w.heap.size w w10) := B9.out.trans (b10.mono B9.out.size)
  obtain ⟨t, k', ws, wanted, read, hrs, hrd, ht, _, _⟩ := HP.out
  have H28 := hid_of (used_call b _ _ _ _ _ _ _ _ w10 hrs.rb)
  have ht0 : read = 0 ∧ t = ⟨#[]⟩ := by
    have e1 : read = 0 := by simpa using hrd
    subst e1
    exact ⟨rfl, size0 (by rw [← len_bs, ht]; rfl)⟩
  obtain ⟨rfl, rfl⟩ := ht0
  have H26 := hid_of (held_call b _ _ _ _ _ _ _ _ ⟨#[]⟩ w10 hrs.rb hrs.sl (by decide) (by decide))
  have H12 := hid_of (fun w' => check_no 0 0 0 (by decide) w')
  clear b10 B9 H17 HP hrs hrd ht
  go_wp2_with fail
  refine H28.out.mono ?_
  rintro e w11 ⟨rfl, hw⟩
  subst hw
  go_wp2_with fail
  refine H26.out.mono ?_
  rintro e w11 ⟨rfl, n, hw⟩
  have B11 : Hid (Below w.heap.size w w11) := by rw [hw]; exact B10.out.trans ((drew_b _ n).mono B10.out.size)
  clear hw H26 H28 B10
  go_wp2_with fail
  refine (H12.out _).mono ?_
  rintro e w12 ⟨rfl, hw⟩
  have B12 : Hid (Below w.heap.size w w12) := by rw [hw]; exact B11.out.alloc B11.out.size _
  have H18 := hid_of (write1 w12 (HH.out.later B12.out))
  clear hw B11 H12
  go_wp2_with fail
  refine H18.out.mono ?_
  rintro e w13 ⟨rfl, b13⟩
  have B13 : Hid (Below w.heap.size w w13) := B12.out.trans (b13.mono B12.out.size)
  clear b13 B12 H18
  go_wp2_with fail
  go_ret
  exact ⟨rfl, B13.out⟩
end Go.Proofs.YtfkilbhhpipjbaaGreatDoor.Sure
