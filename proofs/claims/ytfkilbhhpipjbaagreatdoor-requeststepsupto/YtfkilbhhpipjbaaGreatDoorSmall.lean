/- The reader's small calls: take, count, Used, Held, Fault, Check, New. -/
import Derived.Test.YtfkilbhhpipjbaaGreatDoorLine
namespace Go.Proofs.YtfkilbhhpipjbaaGreatDoor.Small
open Go.RowKit
open Go.Lib (decDigits itoa)
open Go.Proofs.YtfkilbhhpipjbaaGreatDoor.TextMath
open Go.Proofs.YtfkilbhhpipjbaaGreatDoor.ReqMath
open Go.Proofs.YtfkilbhhpipjbaaGreatDoor.Base
open Go.Proofs.YtfkilbhhpipjbaaGreatDoor.Line
set_option linter.unusedVariables false

theorem gPow : Tryz.prog.globalNamed "internal/strconv.uint64pow10" = some 3 := by kernel_rfl
theorem gSyn : Tryz.prog.globalNamed "strconv.ErrSyntax" = some 4 := by kernel_rfl
theorem gRng : Tryz.prog.globalNamed "strconv.ErrRange" = some 5 := by kernel_rfl
def Tab (w : World) : Prop := Lib.TabIs Tryz.prog w "internal/strconv.uint64pow10" .u64 Lib.pow10Tab
structure Has (w : World) : Prop where
  tab : Tab w
  syn : ∃ tp p, w.var? Tryz.prog "strconv.ErrSyntax" = some #[.iface tp p]
  rng : ∃ tp p, w.var? Tryz.prog "strconv.ErrRange" = some #[.iface tp p]
  size : 8 ≤ w.heap.size
theorem Has.fr {F : Nat → Prop} {w w' : World} (h : Has w) (hf : Fr F w w') (hF : ∀ b, F b → 8 ≤ b) : Has w' := by
  have hb : Below 8 w w' := ⟨hf.os, hf.tape, hf.output, hf.size, fun k hk => hf.block k (Nat.lt_of_lt_of_le hk h.size) (fun x => by have := hF k x; omega)⟩
  obtain ⟨h1, ⟨tp, p, h2⟩, ⟨tq, q, h3⟩, h4⟩ := h
  exact ⟨var?_below hb gPow (by omega) h1, ⟨tp, p, var?_below hb gSyn (by omega) h2⟩, ⟨tq, q, var?_below hb gRng (by omega) h3⟩, Nat.le_trans h4 hf.size⟩
theorem Has.later {w w' : World} (h : Has w) (hb : Below w.heap.size w w') : Has w' := Has.fr (F := fun _ => False) h (Fr.of_below hb) (fun b hb => hb.elim)
theorem below_grow (w : World) (k : Nat) (os : Array Obj) : Below w.heap.size w (Sort.grow (w.drewN k) os) :=
  ⟨rfl, rfl, rfl, by simp [Sort.grow], fun j hj => by simp [Sort.grow, Array.getElem?_append, hj]⟩
theorem row_below (w : World) (s : ByteArray) : Below w.heap.size w (Lib.bytesWorld w 5 s) := by
  refine ⟨?_, ?_, ?_, ?_, ?_⟩
  · unfold Lib.bytesWorld World.freeze; rfl
  · unfold Lib.bytesWorld World.freeze; rfl
  · unfold Lib.bytesWorld World.freeze; rfl
  · rw [Lib.bytesWorld_size]; omega
  · intro k hk; exact Lib.bytesWorld_at_old w 5 s k hk
theorem atoi_ok (s : ByteArray) (hs : s.size ≤ 67108864) (v : Int) (h : Lib.atoiAll s.data.toList = .ok v) (w : World) :
    Calls Tryz.prog 98 #[.string s] w fun e w' => e = .returned (.tuple #[.int .i64 v, .nilIface]) ∧ Below w.heap.size w w' := by
  refine (Tryz.strconv_Atoi_ok s (by omega) v h w).mono ?_
  rintro e w' ⟨rfl, h1 | ⟨t, h1⟩⟩
  · subst h1; exact ⟨rfl, Below.refl _ _⟩
  · subst h1; exact ⟨rfl, row_below w t⟩
theorem itoa_any (n : Int) (h0 : -9223372036854775808 ≤ n) (h1 : n ≤ 9223372036854775807) (w : World) (h : Tab w) :
    Calls Tryz.prog 52 #[.int .i64 n] w fun e w' => e = .returned (.string ⟨(itoa n).toArray⟩) ∧ Below w.heap.size w w' := by
  refine (Tryz.strconv_Itoa n h0 h1 w h).mono ?_
  rintro e w' ⟨rfl, k, os, rfl⟩
  exact ⟨rfl, below_grow w k os⟩
theorem itoa_nat (n : Nat) : itoa (n : Int) = decDigits n := by
  unfold itoa
  rw [if_neg (by omega)]
  simp
theorem atoi_dec (n : Nat) (h : n ≤ 1048576) : Lib.atoiAll (decDigits n) = .ok (n : Int) := by
  rw [← itoa_nat]; exact atoi_itoa _ ⟨by omega, by omega⟩
set_option maxHeartbeats 1000000 in
set_option maxRecDepth 100000 in
theorem take_call (b : Nat) (L : Lim) (lv : Value) (k : Nat) (wv : Value) (wanted read used : Nat) (ft : ByteArray) (t : ByteArray) (n : Nat) (x : Int) (w : World) (h : RB b L lv k wv wanted read used ft w) (hs : BySl w lv t) (hx : x = (n : Int)) (hn : n ≤ t.size) (hz : t.size ≤ 67108864) (hr : read ≤ 67108864) :
    Calls Tryz.prog 85 #[.pointer (some ⟨b, 0, none⟩), .int .i64 x] w fun e w' => e = .returned (.tuple #[]) ∧ ∃ lv', RB b L lv' 0 wv wanted (read + n) used ft w' ∧ BySl w' lv' (t.extract n t.size) ∧ (∀ g, slBlock lv' = some g → slBlock lv = some g) ∧ Fr (fun q => q = b) w w' := by
  obtain ⟨a1, c1, hB1, hb1, s1⟩ := hs.from n x hx hn
  subst hx
  have hne : ∀ g, slBlock lv = some g → g ≠ b := by
    intro g hg
    obtain ⟨a, cap, rfl, _, ⟨rfl, _⟩ | ⟨g', o, cs, rfl, hq, _⟩⟩ := hs
    · cases hg
    · cases hg
      rintro rfl
      have h' := h
      unfold RB at h'
      rw [hq] at h'
      cases h'
  obtain ⟨a, cap, rfl, _⟩ := id hs
  have c3 : w.cell? ⟨b, 3, none⟩ = _ := h.cell 3
  have c4 : w.cell? ⟨b, 4, none⟩ = _ := h.cell 4
  have c7 : w.cell? ⟨b, 7, none⟩ = _ := h.cell 7
  have f3 : w.frozen? ⟨b, 3, none⟩ = false := h.frozen 3
  have f4 : w.frozen? ⟨b, 4, none⟩ = false := h.frozen 4
  have f7 : w.frozen? ⟨b, 7, none⟩ = false := h.frozen 7
  have e3 : IntKind.i64.wrap ((read : Int) + (n : Int)) = (read : Int) + (n : Int) := IntWalk.i64_in _ (by omega)
  have H := hid_of h
  have HB := hid_of (And.intro hB1 (And.intro hb1 hne))
  clear hs hB1 hb1 h hne
  by_cases hq : t.size - n = 0
  · have HQ := hid_of hq
    have g1 : (((t.size - n : Nat) : Int) == 0) = true := by rw [hq]; rfl
    clear hq
    go_enter Tryz.func85, Tryz.ntmps85
    go_wp2_with fail
    go_end0
    refine ⟨rfl, .slice none 0 0, ?_, ?_, fun g hg => (by cases hg), ((((Fr.refl _ w).one _).one _).one _).one _⟩
    · exact set_at (set_at (set_at (set_at H.out _) _) _) _
    · have e : t.extract n t.size = ⟨#[]⟩ := size0 (by rw [ext_size t n t.size (Nat.le_refl _)]; exact HQ.out)
      rw [e]
      exact BySl.nil _
  · have HQ := hid_of hq
    have g1 : (((t.size - n : Nat) : Int) == 0) = false := by rw [beq_eq_false_iff_ne]; omega
    clear hq
    go_enter Tryz.func85, Tryz.ntmps85
    go_wp2_with fail
    go_end0
    refine ⟨rfl, .slice a1 (t.size - n) c1, ?_, ?_, fun g hg => (by rw [← HB.out.2.1]; exact hg), (((Fr.refl _ w).one _).one _).one _⟩
    · exact set_at (set_at (set_at H.out _) _) _
    · refine HB.out.1.later fun g hg => ?_
      have hgb := HB.out.2.2 g (by rw [← HB.out.2.1]; exact hg)
      rw [set_ne hgb, set_ne hgb, set_ne hgb]

/- count -/
set_option maxHeartbeats 1000000 in
theorem count_ok (d : ByteArray) (most n : Nat) (ft : ByteArray) (w : World) (hd : bs d = decDigits n) (hn : n ≤ most) (hm : most ≤ 1048576) (hh : Has w) (hs : d.size ≤ 67108864) :
    Calls Tryz.prog 83 #[.string d, .int .i64 most, .string ft] w fun e w' => e = .returned (.int .i64 (n : Int)) ∧ Below w.heap.size w w' := by
  have H1 := hid_of (atoi_ok d hs (n : Int) (by show Lib.atoiAll (bs d) = _; rw [hd]; exact atoi_dec n (by omega)) w)
  have H2 := hid_of (fun w1 (hb : Below w.heap.size w w1) => itoa_any (n : Int) (by omega) (by omega) w1 (hh.later hb).tab)
  have HD : Hid (d = ⟨(itoa (n : Int)).toArray⟩) := of_bs (by rw [hd, itoa_nat]; rfl)
  have g1 : ¬ ((n : Int) < 0) := by omega
  have g2 : ¬ ((most : Int) < (n : Int)) := by omega
  clear hd hh hs
  go_enter Tryz.func83, Tryz.ntmps83
  go_wp2_with fail
  refine H1.out.mono ?_
  rintro e w1 ⟨rfl, b1⟩
  have B1 := hid_of b1
  clear b1
  go_wp2_with fail
  refine (H2.out w1 B1.out).mono ?_
  rintro e w2 ⟨he, b2⟩
  obtain rfl : e = .returned (.string d) := he.trans (by rw [← HD.out])
  have B2 : Hid (Below w.heap.size w w2) := B1.out.trans (b2.mono B1.out.size)
  clear b2 he
  go_wp2_with fail
  go_ret
  exact ⟨rfl, B2.out⟩
set_option maxHeartbeats 1000000 in
theorem count_not (d : ByteArray) (most : Nat) (ft : ByteArray) (w : World) (hm : most ≤ 1048576) (hh : Has w) (hs : d.size ≤ 67108864) (hc : countS most (bs d) = none) :
    Calls Tryz.prog 83 #[.string d, .int .i64 most, .string ft] w fun e w' => e = .panicked [{ v := .iface 73 (.string ft), recovered := false }] ∧ Below w.heap.size w w' := by
  by_cases ho : ∃ v, Lib.atoiAll (bs d) = .ok v
  · obtain ⟨v, hv⟩ := ho
    have H1 := hid_of (atoi_ok d hs v hv w)
    by_cases h0 : v < 0
    · clear hc hv hh
      go_enter Tryz.func83, Tryz.ntmps83
      go_wp2_with fail
      refine H1.out.mono ?_
      rintro e w1 ⟨rfl, b1⟩
      have B1 := hid_of b1
      clear b1
      go_wp2_with fail
      exact ⟨rfl, rfl, B1.out⟩
    · by_cases h1 : (most : Int) < v
      · clear hc hv hh
        go_enter Tryz.func83, Tryz.ntmps83
        go_wp2_with fail
        refine H1.out.mono ?_
        rintro e w1 ⟨rfl, b1⟩
        have B1 := hid_of b1
        clear b1
        go_wp2_with fail
        exact ⟨rfl, rfl, B1.out⟩
      · obtain ⟨n, rfl⟩ : ∃ n : Nat, v = (n : Int) := ⟨v.toNat, by omega⟩
        have hne := count_none hc n (by omega)
        have H2 := hid_of (fun w1 (hb : Below w.heap.size w w1) => itoa_any (n : Int) (by omega) (by omega) w1 (hh.later hb).tab)
        rw [itoa_nat] at H2
        have hnq : ((⟨(decDigits n).toArray⟩ : ByteArray).toList == d.toList) = false := by
          rw [beq_eq_false_iff_ne, Lib.toList_data, Lib.toList_data]
          intro e
          exact hne e.symm
        clear hc hv hh hne
        generalize (⟨(decDigits n).toArray⟩ : ByteArray) = y at H2 hnq
        go_enter Tryz.func83, Tryz.ntmps83
        go_wp2_with fail
        refine H1.out.mono ?_
        rintro e w1 ⟨rfl, b1⟩
        have B1 := hid_of b1
        clear b1
        go_wp2_with fail
        refine (H2.out w1 B1.out).mono ?_
        rintro e w2 ⟨rfl, b2⟩
        have B2 : Hid (Below w.heap.size w w2) := B1.out.trans (b2.mono B1.out.size)
        clear b2
        go_wp2_with fail
        exact ⟨rfl, rfl, B2.out⟩
  · obtain ⟨tp, p, hp⟩ := hh.syn
    obtain ⟨tq, q, hq⟩ := hh.rng
    have H1 := hid_of (Tryz.strconv_Atoi_no d (by omega) (fun v hv => ho ⟨v, hv⟩) tp tq p q w hp hq)
    clear hc ho hh hp hq
    go_enter Tryz.func83, Tryz.ntmps83
    go_wp2_with fail
    refine H1.out.mono ?_
    rintro e w1 ⟨m, N, rfl, b1⟩
    have B1 := hid_of b1
    clear b1
    go_wp2_with fail
    exact ⟨rfl, rfl, B1.out⟩

/- what a reader tells -/
set_option maxRecDepth 100000 in
theorem used_call (b : Nat) (L : Lim) (lv : Value) (k : Nat) (wv : Value) (wanted read used : Nat) (ft : ByteArray) (w : World) (h : RB b L lv k wv wanted read used ft w) :
    Calls Tryz.prog 28 #[.pointer (some ⟨b, 0, none⟩)] w fun e w' => e = .returned (.int .i64 (used : Int)) ∧ w' = w := by
  have c8 : w.cell? ⟨b, 8, none⟩ = _ := h.cell 8
  clear h
  go_enter Tryz.func28, Tryz.ntmps28
  go_wp2_with fail
  go_ret
  exact ⟨rfl, rfl⟩
set_option maxRecDepth 100000 in
theorem fault_call (b : Nat) (L : Lim) (lv : Value) (k : Nat) (wv : Value) (wanted read used : Nat) (ft : ByteArray) (w : World) (h : RB b L lv k wv wanted read used ft w) :
    Calls Tryz.prog 25 #[.pointer (some ⟨b, 0, none⟩)] w fun e w' => e = .returned (.string ft) ∧ w' = w := by
  have c9 : w.cell? ⟨b, 9, none⟩ = _ := h.cell 9
  clear h
  go_enter Tryz.func25, Tryz.ntmps25
  go_wp2_with fail
  go_ret
  exact ⟨rfl, rfl⟩
set_option maxRecDepth 100000 in
theorem held_call (b : Nat) (L : Lim) (lv : Value) (k : Nat) (wv : Value) (wanted read used : Nat) (ft : ByteArray) (t : ByteArray) (w : World) (h : RB b L lv k wv wanted read used ft w) (hs : BySl w lv t) (hz : t.size ≤ 67108864) (hr : read ≤ 67108864) :
    Calls Tryz.prog 26 #[.pointer (some ⟨b, 0, none⟩)] w fun e w' => e = .returned (.int .i64 ((read : Int) + (t.size : Int))) ∧ ∃ n, w' = w.drewN n := by
  obtain ⟨a, cap, rfl, _⟩ := hs
  have c3 : w.cell? ⟨b, 3, none⟩ = _ := h.cell 3
  have c7 : w.cell? ⟨b, 7, none⟩ = _ := h.cell 7
  have e3 : IntKind.i64.wrap ((read : Int) + (t.size : Int)) = (read : Int) + (t.size : Int) := IntWalk.i64_in _ (by omega)
  clear h
  go_enter Tryz.func26, Tryz.ntmps26
  go_wp2_with fail
  go_quiet (fail)
  go_wp2_with fail
  go_ret
  exact ⟨rfl, _, rfl⟩
theorem used_nil (w : World) : Calls Tryz.prog 28 #[.pointer none] w fun e w' => e = .returned (.int .i64 0) ∧ w' = w := by
  go_enter Tryz.func28, Tryz.ntmps28
  go_wp2_with fail
  go_ret
  exact ⟨rfl, rfl⟩
theorem fault_nil (w : World) : Calls Tryz.prog 25 #[.pointer none] w fun e w' => e = .returned (.string ⟨#[]⟩) ∧ w' = w := by
  go_enter Tryz.func25, Tryz.ntmps25
  go_wp2_with fail
  go_ret
  exact ⟨rfl, rfl⟩
theorem held_nil (w : World) : Calls Tryz.prog 26 #[.pointer none] w fun e w' => e = .returned (.int .i64 0) ∧ w' = w := by
  go_enter Tryz.func26, Tryz.ntmps26
  go_wp2_with fail
  go_ret
  exact ⟨rfl, rfl⟩
theorem feed_nil (s : ByteArray) (w : World) : Calls Tryz.prog 21 #[.pointer none, .string s] w fun e w' => e = .returned (.tuple #[]) ∧ w' = w := by
  go_enter Tryz.func21, Tryz.ntmps21
  go_wp2_with fail
  refine bodyPost_ret (results_none rfl _ _ _) rfl ?_
  exact ⟨rfl, rfl⟩
def limV (L : Lim) : Value := .agg #[.int .i64 L.bulk, .int .i64 L.args, .int .i64 L.line]
def okB (x y z : Int) : Bool := decide (1 ≤ x ∧ x ≤ 1048576 ∧ 1 ≤ y ∧ y ≤ 65536 ∧ 32 ≤ z ∧ z ≤ 65536)
set_option maxRecDepth 100000 in
theorem check_ok (x y z : Int) (h : okB x y z = true) (w : World) :
    Calls Tryz.prog 12 #[.agg #[.int .i64 x, .int .i64 y, .int .i64 z]] w fun e w' => e = .returned (.int .i64 0) ∧ w' = w.alloc (.cells #[.int .i64 x, .int .i64 y, .int .i64 z] 23) := by
  obtain ⟨h1, h2, h3, h4, h5, h6⟩ := of_decide_eq_true h
  clear h
  go_enter Tryz.func12, Tryz.ntmps12
  go_wp2_with fail
  go_ret
  exact ⟨rfl, rfl⟩
set_option maxRecDepth 100000 in
set_option maxHeartbeats 1000000 in
theorem check_no (x y z : Int) (h : okB x y z = false) (w : World) :
    Calls Tryz.prog 12 #[.agg #[.int .i64 x, .int .i64 y, .int .i64 z]] w fun e w' => e = .returned (.int .i64 40) ∧ w' = w.alloc (.cells #[.int .i64 x, .int .i64 y, .int .i64 z] 23) := by
  have h' := of_decide_eq_false h
  clear h
  by_cases a1 : 1 ≤ x
  · by_cases a2 : x ≤ 1048576
    · by_cases a3 : 1 ≤ y
      · by_cases a4 : y ≤ 65536
        · by_cases a5 : 32 ≤ z
          · have a6 : ¬ z ≤ 65536 := fun q => h' ⟨a1, a2, a3, a4, a5, q⟩
            clear h'
            go_enter Tryz.func12, Tryz.ntmps12
            go_wp2_with fail
            all_goals (go_ret; exact ⟨rfl, rfl⟩)
          · clear h'
            go_enter Tryz.func12, Tryz.ntmps12
            go_wp2_with fail
            all_goals (go_ret; exact ⟨rfl, rfl⟩)
        · clear h'
          go_enter Tryz.func12, Tryz.ntmps12
          go_wp2_with fail
          all_goals (go_ret; exact ⟨rfl, rfl⟩)
      · clear h'
        go_enter Tryz.func12, Tryz.ntmps12
        go_wp2_with fail
        all_goals (go_ret; exact ⟨rfl, rfl⟩)
    · clear h'
      go_enter Tryz.func12, Tryz.ntmps12
      go_wp2_with fail
      all_goals (go_ret; exact ⟨rfl, rfl⟩)
  · clear h'
    go_enter Tryz.func12, Tryz.ntmps12
    go_wp2_with fail
    all_goals (go_ret; exact ⟨rfl, rfl⟩)
set_option maxRecDepth 100000 in
theorem new_no (x y z : Int) (h : okB x y z = false) (w : World) :
    Calls Tryz.prog 20 #[.agg #[.int .i64 x, .int .i64 y, .int .i64 z]] w fun e w' => e = .returned (.tuple #[.pointer none, .int .i64 40]) ∧ Below w.heap.size w w' := by
  have H1 := hid_of (fun w1 => check_no x y z h w1)
  clear h
  go_enter Tryz.func20, Tryz.ntmps20
  go_wp2_with fail
  refine (H1.out _).mono ?_
  rintro e w1 ⟨rfl, hw⟩
  have HB : Hid (Below w.heap.size w w1) := by rw [hw]; exact ((Below.refl _ w).alloc (Nat.le_refl _) _).alloc (by simp) _
  clear hw
  go_wp2_with fail
  go_ret2
  exact ⟨rfl, HB.out⟩
set_option maxRecDepth 100000 in
set_option maxHeartbeats 1000000 in
theorem new_ok (L : Lim) (h : okB L.bulk L.args L.line = true) (w : World) :
    Calls Tryz.prog 20 #[limV L] w fun e w' => ∃ b, e = .returned (.tuple #[.pointer (some ⟨b, 0, none⟩), .int .i64 0]) ∧ w.heap.size ≤ b ∧ RB b L (.slice none 0 0) 0 (.slice none 0 0) 0 0 0 ⟨#[]⟩ w' ∧ Below w.heap.size w w' := by
  have H1 := hid_of (fun w1 => check_ok L.bulk L.args L.line h w1)
  clear h
  unfold limV
  go_enter Tryz.func20, Tryz.ntmps20
  go_wp2_with fail
  refine (H1.out _).mono ?_
  rintro e w1 ⟨rfl, hw⟩
  have HB : Hid (Below w.heap.size w w1) := by rw [hw]; exact ((Below.refl _ w).alloc (Nat.le_refl _) _).alloc (by simp) _
  have HC : ∀ i, w1.cell? ⟨w.heap.size, i, none⟩ = (#[.int .i64 L.bulk, .int .i64 L.args, .int .i64 L.line] : Array Value)[i]? := by
    intro i
    have e : w1.heap[w.heap.size]? = some (.cells #[.int .i64 L.bulk, .int .i64 L.args, .int .i64 L.line] 23 (0, 0)) := by
      rw [hw]
      show ((w.heap.push _).push _)[w.heap.size]? = _
      rw [Array.getElem?_push_lt (by simp), Array.getElem_push_eq]
    rw [Lib.cell_of_heap e]
  have d0 := HC 0
  have d1 := HC 1
  have d2 := HC 2
  clear hw HC
  go_wp2_with fail
  go_ret2
  refine ⟨_, rfl, HB.out.size, ?_, HB.out.alloc HB.out.size _⟩
  exact heap_alloc_new w1 _
end Go.Proofs.YtfkilbhhpipjbaaGreatDoor.Small
