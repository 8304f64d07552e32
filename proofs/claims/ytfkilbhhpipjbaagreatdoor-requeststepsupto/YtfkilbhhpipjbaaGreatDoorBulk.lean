/- bulk: the next bulk of an array. -/
import Derived.Test.YtfkilbhhpipjbaaGreatDoorAppend
namespace Go.Proofs.YtfkilbhhpipjbaaGreatDoor.Bulk
open Go.RowKit
open Go.Lib (decDigits)
open Go.Proofs.YtfkilbhhpipjbaaGreatDoor.TextMath
open Go.Proofs.YtfkilbhhpipjbaaGreatDoor.ReqMath
open Go.Proofs.YtfkilbhhpipjbaaGreatDoor.Base
open Go.Proofs.YtfkilbhhpipjbaaGreatDoor.Line
open Go.Proofs.YtfkilbhhpipjbaaGreatDoor.Small
open Go.Proofs.YtfkilbhhpipjbaaGreatDoor.Append
set_option linter.unusedVariables false

theorem rb_later {b : Nat} {L : Lim} {lv : Value} {k : Nat} {wv : Value} {wanted read used : Nat} {ft : ByteArray} {w w2 : World} (h : RB b L lv k wv wanted read used ft w) (hb : Below w.heap.size w w2) : RB b L lv k wv wanted read used ft w2 := (hb.block b (lt_of h)).trans h
theorem by_below {w w2 : World} {v : Value} {t : ByteArray} (h : BySl w v t) (hb : Below w.heap.size w w2) : BySl w2 v t := by
  obtain ⟨a, cap, rfl, hc, ⟨rfl, h0⟩ | ⟨g, o, cs, rfl, hg, ho, hB⟩⟩ := h
  · exact ⟨_, cap, rfl, hc, Or.inl ⟨rfl, h0⟩⟩
  · exact BySl.later ⟨_, cap, rfl, hc, Or.inr ⟨g, o, cs, rfl, hg, ho, hB⟩⟩ (fun g' hg' => by cases hg'; exact hb.block g (lt_of hg))
theorem bdN (w : World) (n : Nat) : Below w.heap.size w (w.drewN n) := ⟨rfl, rfl, rfl, Nat.le_refl _, fun _ _ => rfl⟩
theorem ext_bs (t : ByteArray) (i j : Nat) : bs (t.extract i j) = ((bs t).drop i).take (j - i) := by unfold bs; simp [List.extract_eq_take_drop]
theorem ext_from (t : ByteArray) (i : Nat) : bs (t.extract i t.size) = (bs t).drop i := by
  rw [ext_bs, List.take_of_length_le (by rw [List.length_drop, len_bs]; omega)]
theorem ext_to (t : ByteArray) (j : Nat) : bs (t.extract 0 j) = (bs t).take j := by rw [ext_bs]; simp

set_option maxHeartbeats 1000000 in
set_option maxRecDepth 100000 in
theorem bulk_first (b : Nat) (L : Lim) (lv : Value) (k : Nat) (wv : Value) (wanted read used : Nat) (ft : ByteArray) (t : ByteArray) (w : World) (h : RB b L lv k wv wanted read used ft w) (hs : BySl w lv t) (hz : t.size ≤ 67108864)
    (c : UInt8) (r : List UInt8) (ht : bs t = c :: r) (hc : c ≠ 36) :
    Calls Tryz.prog 70 #[.pointer (some ⟨b, 0, none⟩)] w fun e w' => e = gaveUp wBulk ∧ w' = w := by
  have h1 : 1 ≤ t.size := by rw [← len_bs, ht]; simp
  obtain ⟨a1, c1, hB1, _, s1⟩ := hs.to 1 1 rfl h1
  have hcv := hB1.conv
  have hy : bs (t.extract 0 1) = [c] := by rw [ext_to, ht]; rfl
  generalize t.extract 0 1 = y at hcv hy
  obtain rfl : y = ⟨#[c]⟩ := of_bs hy
  obtain ⟨a, cap, rfl, _⟩ := id hs
  have c3 : w.cell? ⟨b, 3, none⟩ = _ := h.cell 3
  have g1 : (0 : Int) < (t.size : Int) := by omega
  have hcc : (c == 36) = false := by rw [beq_eq_false_iff_ne]; exact hc
  unfold gaveUp
  clear hs hB1 h hy ht
  go_enter Tryz.func70, Tryz.ntmps70
  go_wp2_with fail
  exact ⟨rfl, rfl, rfl⟩
/- the first byte is a $ -/
theorem head_got {l : List UInt8} {r : List UInt8} {most n : Nat} {x : List UInt8} (hl : l = 36 :: r) (h : lineS most l = .got x n) : ∃ i d, nl l = some i ∧ i ≤ most ∧ n = i + 1 ∧ x = 36 :: d ∧ x = Lib.trimSuffix (l.take i) [13] ∧ i < l.length := by
  unfold lineS at h
  cases hi : nl l with
  | none => rw [hi] at h; dsimp only at h; split at h <;> cases h
  | some i =>
    rw [hi] at h
    dsimp only at h
    split at h
    · cases h
    · rename_i hm
      injection h with h1 h2
      have hlt := nl_lt l i hi
      obtain ⟨j, rfl⟩ : ∃ j, i = j + 1 := by
        cases i with
        | zero =>
          rw [hl, nl_cons, if_neg (by decide)] at hi
          cases hq : nl r with
          | none => rw [hq] at hi; cases hi
          | some q => rw [hq] at hi; cases hi
        | succ j => exact ⟨j, rfl⟩
      refine ⟨j + 1, x.tail, rfl, by omega, h2.symm, ?_, h1.symm, hlt⟩
      rw [← h1, hl, List.take_succ_cons]
      unfold Lib.trimSuffix
      split
      · rename_i hsu
        unfold Lib.hasSuffix at hsu
        rw [List.isSuffixOf_iff_suffix] at hsu
        cases hq : r.take j with
        | nil =>
          rw [hq] at hsu
          obtain ⟨u, hu⟩ := hsu
          cases u with
          | nil => cases hu
          | cons y u => simp at hu
        | cons y u => simp
      · simp
set_option maxHeartbeats 1000000 in
set_option maxRecDepth 100000 in
theorem bulk_long (b : Nat) (L : Lim) (lv : Value) (k : Nat) (wv : Value) (wanted read used : Nat) (ft : ByteArray) (t : ByteArray) (w : World) (h : RB b L lv k wv wanted read used ft w) (hs : BySl w lv t) (hk : k ≤ t.size) (hn : nl ((bs t).take k) = none) (hz : t.size ≤ 67108864) (hL : L.line ≤ 65536)
    (r : List UInt8) (ht : bs t = 36 :: r) (hl : lineS L.line (bs t) = .long) :
    Calls Tryz.prog 70 #[.pointer (some ⟨b, 0, none⟩)] w fun e w' => e = gaveUp wLine ∧ Below w.heap.size w w' := by
  have h1 : 1 ≤ t.size := by rw [← len_bs, ht]; simp
  obtain ⟨a1, c1, hB1, _, s1⟩ := hs.to 1 1 rfl h1
  have hcv := hB1.conv
  have hy : bs (t.extract 0 1) = [36] := by rw [ext_to, ht]; rfl
  generalize t.extract 0 1 = y at hcv hy
  obtain rfl : y = ⟨#[36]⟩ := of_bs hy
  have H1 := hid_of (line_long b L lv k wv wanted read used ft t w h hs hk hn hz hL hl)
  obtain ⟨a, cap, rfl, _⟩ := id hs
  have c3 : w.cell? ⟨b, 3, none⟩ = _ := h.cell 3
  have g1 : (0 : Int) < (t.size : Int) := by omega
  clear hs hB1 h hy ht hn hl
  go_enter Tryz.func70, Tryz.ntmps70
  go_wp2_with fail
  refine H1.out.mono ?_
  rintro e w1 ⟨rfl, n, rfl⟩
  exact ⟨rfl, rfl, bdN _ _⟩
theorem set_below {w : World} {b i : Nat} {v : Value} {n : Nat} : Fr (fun q => q = b) w ((w.setCell ⟨b, i, none⟩ v).drewN n) := ((Fr.refl _ w).one v).drewN n
set_option maxHeartbeats 1000000 in
set_option maxRecDepth 100000 in
theorem bulk_more (b : Nat) (L : Lim) (lv : Value) (k : Nat) (wv : Value) (wanted read used : Nat) (ft : ByteArray) (t : ByteArray) (w : World) (h : RB b L lv k wv wanted read used ft w) (hs : BySl w lv t) (hk : k ≤ t.size) (hn : nl ((bs t).take k) = none) (hz : t.size ≤ 67108864) (hL : L.line ≤ 65536)
    (r : List UInt8) (ht : bs t = [] ∨ bs t = 36 :: r) (hl : lineS L.line (bs t) = .more) :
    Calls Tryz.prog 70 #[.pointer (some ⟨b, 0, none⟩)] w fun e w' => e = gaveUp [] ∧ nl (bs t) = none ∧ RB b L lv t.size wv wanted read used ft w' ∧ Fr (fun q => q = b) w w' := by
  obtain ⟨hnn, hm⟩ : nl (bs t) = none ∧ t.size ≤ L.line := by
    unfold lineS at hl
    cases hq : nl (bs t) with
    | none =>
      rw [hq] at hl
      dsimp only at hl
      split at hl
      · cases hl
      · rename_i h0; rw [len_bs] at h0; exact ⟨rfl, by omega⟩
    | some i => rw [hq] at hl; dsimp only at hl; split at hl <;> cases hl
  have H1 := hid_of (line_more b L lv k wv wanted read used ft t w h hs hk hn hz hL hnn hm)
  have HX := hid_of (And.intro hnn h)
  rcases ht with ht | ht
  · have h0 : t.size = 0 := by rw [← len_bs, ht]; rfl
    obtain ⟨a, cap, rfl, _⟩ := id hs
    have c3 : w.cell? ⟨b, 3, none⟩ = _ := h.cell 3
    have g1 : ¬ ((0 : Int) < (t.size : Int)) := by omega
    clear hs h ht hn hl hnn h0
    go_enter Tryz.func70, Tryz.ntmps70
    go_wp2_with fail
    refine H1.out.mono ?_
    rintro e w1 ⟨rfl, n, rfl⟩
    exact ⟨rfl, rfl, HX.out.1, set_at HX.out.2 _, set_below⟩
  · have h1 : 1 ≤ t.size := by rw [← len_bs, ht]; simp
    obtain ⟨a1, c1, hB1, _, s1⟩ := hs.to 1 1 rfl h1
    have hcv := hB1.conv
    have hy : bs (t.extract 0 1) = [36] := by rw [ext_to, ht]; rfl
    generalize t.extract 0 1 = y at hcv hy
    obtain rfl : y = ⟨#[36]⟩ := of_bs hy
    obtain ⟨a, cap, rfl, _⟩ := id hs
    have c3 : w.cell? ⟨b, 3, none⟩ = _ := h.cell 3
    have g1 : (0 : Int) < (t.size : Int) := by omega
    clear hs hB1 h hy ht hn hl hnn
    go_enter Tryz.func70, Tryz.ntmps70
    go_wp2_with fail
    refine H1.out.mono ?_
    rintro e w1 ⟨rfl, n, rfl⟩
    exact ⟨rfl, rfl, HX.out.1, set_at HX.out.2 _, set_below⟩
set_option maxHeartbeats 1000000 in
set_option maxRecDepth 100000 in
theorem bulk_length (b : Nat) (L : Lim) (lv : Value) (k : Nat) (wv : Value) (wanted read used : Nat) (ft : ByteArray) (t : ByteArray) (w : World) (h : RB b L lv k wv wanted read used ft w) (hs : BySl w lv t) (hk : k ≤ t.size) (hn : nl ((bs t).take k) = none) (hz : t.size ≤ 67108864) (hL : L.line ≤ 65536) (hLb : L.bulk ≤ 1048576) (hh : Has w)
    (r x : List UInt8) (n : Nat) (ht : bs t = 36 :: r) (hl : lineS L.line (bs t) = .got x n) (hc : countS L.bulk x.tail = none) :
    Calls Tryz.prog 70 #[.pointer (some ⟨b, 0, none⟩)] w fun e w' => e = gaveUp wLength ∧ Below w.heap.size w w' := by
  have h1 : 1 ≤ t.size := by rw [← len_bs, ht]; simp
  obtain ⟨a1, c1, hB1, _, s1⟩ := hs.to 1 1 rfl h1
  have hcv := hB1.conv
  have hy : bs (t.extract 0 1) = [36] := by rw [ext_to, ht]; rfl
  generalize t.extract 0 1 = y at hcv hy
  obtain rfl : y = ⟨#[36]⟩ := of_bs hy
  obtain ⟨i, d, hi, him, hni, hxd, hxt, hit⟩ := head_got ht hl
  have H1 := hid_of (line_got b L lv k wv wanted read used ft t (mk x) i w h hs hk hn hz hL hi him (by rw [bs_mk]; exact hxt))
  subst hxd
  have hdl : d.length ≤ 67108864 := by
    have := congrArg List.length hxt
    have h2 := Lib.trimSuffix_le ((bs t).take i) [13]
    rw [← this, List.length_take, len_bs, List.length_cons] at h2
    omega
  have hsl : ∀ w, (Instr.slice 9 (.string (mk (36 :: d))) (some (.int .i64 1)) none none).run Tryz.prog w = .ok (.string (mk d)) w := by
    intro w
    rw [run_slice_string_from_if (P := Tryz.prog) (w := w) 9 (mk (36 :: d)) .i64 1 Tryz.underlying9, if_pos ⟨by omega, by rw [mk_size, List.length_cons]; omega⟩]
    congr 2
    apply of_bs
    rw [show ((1 : Int).toNat) = 1 from rfl, ext_from]
    rfl
  have H2 := hid_of (fun q => count_not (mk d) L.bulk ⟨wLength.toArray⟩ (w.drewN q) hLb (hh.later (bdN _ _)) (by rw [mk_size]; exact hdl) hc)
  obtain ⟨a, cap, rfl, _⟩ := id hs
  have c3 : w.cell? ⟨b, 3, none⟩ = _ := h.cell 3
  have c0 : w.cell? ⟨b, 0, none⟩ = _ := h.cell 0
  have g1 : (0 : Int) < (t.size : Int) := by omega
  generalize mk (36 :: d) = X at H1 hsl
  generalize mk d = D at hsl H2
  clear hs hB1 h hy ht hn hl hxt hi hc hni hh
  unfold gaveUp
  go_enter Tryz.func70, Tryz.ntmps70
  go_wp2_with fail
  refine H1.out.mono ?_
  rintro e w1 ⟨rfl, q, rfl⟩
  go_wp2_with fail
  go_region_dies
  all_goals
    refine (H2.out (q + 1)).mono ?_
    rintro e w2 ⟨rfl, b2⟩
    exact ⟨rfl, rfl, (bdN w (q + 1)).trans b2⟩
end Go.Proofs.YtfkilbhhpipjbaaGreatDoor.Bulk
