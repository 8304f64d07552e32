/- The document's own bulk. -/
import Derived.Test.YtfkilbhhpipjbaaGreatDoorRefCount
import Derived.Test.YtfkilbhhpipjbaaGreatDoorBulkAny
namespace Go.Proofs.YtfkilbhhpipjbaaGreatDoor.RefBulk
open Go.RowKit
open Go.Lib (decDigits trimSuffix)
open Go.Proofs.YtfkilbhhpipjbaaGreatDoor.TextMath
open Go.Proofs.YtfkilbhhpipjbaaGreatDoor.ReqMath
open Go.Proofs.YtfkilbhhpipjbaaGreatDoor.Base
open Go.Proofs.YtfkilbhhpipjbaaGreatDoor.Small
open Go.Proofs.YtfkilbhhpipjbaaGreatDoor.BulkAny
open Go.Proofs.YtfkilbhhpipjbaaGreatDoor.Quoted
open Go.Proofs.YtfkilbhhpipjbaaGreatDoor.RefPart
open Go.Proofs.YtfkilbhhpipjbaaGreatDoor.RefLine
open Go.Proofs.YtfkilbhhpipjbaaGreatDoor.RefCount
set_option linter.unusedVariables false

@[reducible] def thg (v : Value) (n what : Int) (f : ByteArray) : Value := .agg #[v, .int .i64 n, .int .i64 what, .string f]
set_option maxRecDepth 100000 in
theorem rwrong_call (f : ByteArray) (w : World) : Calls Tryz.prog 56 #[.string f] w fun e w' => e = .returned (thg (.slice none 0 0) 0 2 f) ∧ Below w.heap.size w w' := by
  go_enter Tryz.func56, Tryz.ntmps56
  go_wp2_with fail
  exact ⟨rfl, thg (.slice none 0 0) 0 2 f, by simp [results, Tryz.results56, go_sem], rfl, (Below.refl _ w).alloc (Nat.le_refl _) _⟩
theorem line_head {most : Nat} {c : UInt8} {t x : List UInt8} {n : Nat} (hc : c ≠ 10) (hc2 : c ≠ 13) (h : lineS most (c :: t) = .got x n) : ∃ d, x = c :: d := by
  unfold lineS at h
  rw [nl_cons, if_neg hc] at h
  cases hn : nl t with
  | none => rw [hn] at h; dsimp only [Option.map] at h; split at h <;> cases h
  | some i =>
    rw [hn] at h
    dsimp only [Option.map] at h
    split at h
    · cases h
    · injection h with h1 h2
      rw [← h1, List.take_succ_cons]
      unfold trimSuffix
      split
      · rename_i hs
        cases ht : t.take i with
        | nil =>
          rw [ht] at hs
          unfold Lib.hasSuffix at hs
          simp at hs
          obtain ⟨t0, ht0⟩ := hs
          cases t0 with
          | nil => simp at ht0; exact absurd ht0.symm hc2
          | cons a b => simp at ht0
        | cons a r => exact ⟨(a :: r).take r.length, by simp⟩
      · exact ⟨_, rfl⟩
theorem line_len {most : Nat} {l x : List UInt8} {n : Nat} (h : lineS most l = .got x n) : n ≤ l.length ∧ x.length ≤ n := by
  have h1 := (line_got_app h []).2.1
  refine ⟨h1, ?_⟩
  unfold lineS at h
  cases hn : nl l with
  | none => rw [hn] at h; dsimp only at h; split at h <;> cases h
  | some i =>
    rw [hn] at h
    dsimp only at h
    split at h
    · cases h
    · injection h with q1 q2
      rw [← q1, ← q2]
      unfold trimSuffix
      split
      · rw [List.length_take, List.length_take]; omega
      · rw [List.length_take]; omega
/- a box of four cells that is written anew -/
theorem box_set {w : World} {b : Nat} {c0 c1 c2 c3 v0 v1 v2 v3 : Value} (h : w.heap[b]? = some (.cells #[c0, c1, c2, c3] 79 (0, 0))) :
    ((((w.setCell ⟨b, 0, none⟩ v0).setCell ⟨b, 1, none⟩ v1).setCell ⟨b, 2, none⟩ v2).setCell ⟨b, 3, none⟩ v3).heap[b]? = some (.cells #[v0, v1, v2, v3] 79 (0, 0)) := by
  have h0 := heap_setCell_same w b 0 _ _ v0 h
  have h1 := heap_setCell_same _ b 1 _ _ v1 h0
  have h2 := heap_setCell_same _ b 2 _ _ v2 h1
  have h3 := heap_setCell_same _ b 3 _ _ v3 h2
  exact h3
theorem box_below {w0 w : World} {B b : Nat} {v0 v1 v2 v3 : Value} (h : Below B w0 w) (hb : B ≤ b) : Below B w0 ((((w.setCell ⟨b, 0, none⟩ v0).setCell ⟨b, 1, none⟩ v1).setCell ⟨b, 2, none⟩ v2).setCell ⟨b, 3, none⟩ v3) :=
  (((h.setCell (p := ⟨b, 0, none⟩) hb v0).setCell (p := ⟨b, 1, none⟩) hb v1).setCell (p := ⟨b, 2, none⟩) hb v2).setCell (p := ⟨b, 3, none⟩) hb v3
def bulkE (a : Nat) : BR → Ending
  | .more => .returned (.tuple #[.string ⟨#[]⟩, thg (.slice none 0 0) 0 0 ⟨#[]⟩])
  | .fault x => .returned (.tuple #[.string ⟨#[]⟩, thg (.slice none 0 0) 0 2 (mk x)])
  | .done n x => .returned (.tuple #[.string (mk x), thg (.slice none 0 0) ((a + n : Nat) : Int) 1 ⟨#[]⟩])
set_option maxHeartbeats 4000000 in
set_option maxRecDepth 100000 in
theorem rbulk_call (L : Lim) (hL : Lok L) (s : ByteArray) (a : Nat) (ha : a ≤ s.size) (hz : s.size ≤ 67108864) (w : World) :
    Calls Tryz.prog 58 #[limV L, .string s, .int .i64 (a : Int)] w fun e w' => e = bulkE a (bulkS L ((bs s).drop a)) ∧ Below w.heap.size w w' := by
  have hsl : (bs s).length = s.size := len_bs s
  have HWr := hid_of rwrong_call
  obtain ⟨W0, hW0⟩ : ∃ W0, W0 = (w.alloc (.cells #[.int .i64 L.bulk, .int .i64 L.args, .int .i64 L.line] 23)).alloc (.cells #[.slice none 0 0, .int .i64 0, .int .i64 0, .string ⟨#[]⟩] 79) := ⟨_, rfl⟩
  have HB : Hid (Below w.heap.size w W0) := by rw [hW0]; exact ((Below.refl _ w).alloc (Nat.le_refl _) _).alloc (by simp) _
  have HLn := hid_of (rline_call s a L.line ha hz (by have := hL.line; omega) W0)
  have HX : Hid (∀ W, Below W0.heap.size W0 W → W.heap[w.heap.size]? = some (.cells #[.int .i64 L.bulk, .int .i64 L.args, .int .i64 L.line] 23 (0, 0)) ∧ W.heap[w.heap.size + 1]? = some (.cells #[.slice none 0 0, .int .i64 0, .int .i64 0, .string ⟨#[]⟩] 79 (0, 0))) := by
    intro W hW
    have x1 : W0.heap[w.heap.size + 1]? = some (.cells #[.slice none 0 0, .int .i64 0, .int .i64 0, .string ⟨#[]⟩] 79 (0, 0)) := by
      rw [hW0]
      have := heap_alloc_new (w.alloc (.cells #[.int .i64 L.bulk, .int .i64 L.args, .int .i64 L.line] 23)) (.cells #[.slice none 0 0, .int .i64 0, .int .i64 0, .string ⟨#[]⟩] 79)
      rw [show (w.alloc (.cells #[.int .i64 L.bulk, .int .i64 L.args, .int .i64 L.line] 23)).heap.size = w.heap.size + 1 by simp] at this
      exact this
    have x0 : W0.heap[w.heap.size]? = some (.cells #[.int .i64 L.bulk, .int .i64 L.args, .int .i64 L.line] 23 (0, 0)) := by
      rw [hW0]
      have hb : Below (w.alloc (.cells #[.int .i64 L.bulk, .int .i64 L.args, .int .i64 L.line] 23)).heap.size (w.alloc (.cells #[.int .i64 L.bulk, .int .i64 L.args, .int .i64 L.line] 23)) ((w.alloc (.cells #[.int .i64 L.bulk, .int .i64 L.args, .int .i64 L.line] 23)).alloc (.cells #[.slice none 0 0, .int .i64 0, .int .i64 0, .string ⟨#[]⟩] 79)) := (Below.refl _ _).alloc (Nat.le_refl _) _
      exact (hb.block _ (by simp)).trans (heap_alloc_new w _)
    exact ⟨(hW.block _ (lt_of x0)).trans x0, (hW.block _ (lt_of x1)).trans x1⟩
  have HW0 := hid_of hW0
  clear hW0
  unfold limV
  by_cases h0 : a = s.size
  · have HE : Hid (bulkS L ((bs s).drop a) = .more) := by rw [h0, ← hsl, List.drop_length]; exact hid_of rfl
    have e0 : ((a : Int) == (s.size : Int)) = true := by rw [beq_iff_eq]; omega
    rw [HE.out]
    clear h0 HLn
    go_enter Tryz.func58, Tryz.ntmps58
    go_wp2_with fail
    exact ⟨rfl, .tuple #[.string ⟨#[]⟩, thg (.slice none 0 0) 0 0 ⟨#[]⟩], by simp [results, Tryz.results58, go_sem], rfl, ((Below.refl _ w).alloc (Nat.le_refl _) _).alloc (by simp) _⟩
  · have e0 : ((a : Int) == (s.size : Int)) = false := by rw [beq_eq_false_iff_ne]; omega
    obtain ⟨c, hc⟩ : ∃ c, (bs s)[a]? = some c := ⟨_, get_bs s a (by omega)⟩
    have hix := index_at s a c hc (a : Int) rfl
    have hdr : (bs s).drop a = c :: (bs s).drop (a + 1) := by
      obtain ⟨h2, h3⟩ := List.getElem?_eq_some_iff.1 hc
      rw [List.drop_eq_getElem_cons h2, h3]
    by_cases h36 : c = 36
    · subst h36
      have e1 : bulkS L ((bs s).drop a) = match lineS L.line ((bs s).drop a) with
          | .more => .more
          | .long => .fault wLine
          | .got x n => match countS L.bulk x.tail with
            | none => .fault wLength
            | some k => endS n k (((bs s).drop a).drop n) := by
        rw [hdr]
        show (if (36 : UInt8) ≠ 36 then BR.fault wBulk else _) = _
        rw [if_neg (fun h => h rfl)]
        cases lineS L.line (36 :: (bs s).drop (a + 1)) <;> rfl
      cases hl : lineS L.line ((bs s).drop a) with
      | more =>
        rw [hl] at HLn e1
        rw [e1]
        unfold lineE at HLn
        clear hdr hc hl e1
        go_enter Tryz.func58, Tryz.ntmps58
        go_wp2_with fail
        rw [← HW0.out]
        refine HLn.out.mono ?_
        rintro e w1 ⟨rfl, hw1⟩
        subst hw1
        obtain ⟨y0, y1⟩ := HX.out w1 (Below.refl _ w1)
        have HY := hid_of y1
        have HB2 := hid_of (HB.out.trans (((Below.refl _ w1)).mono HB.out.size))
        have k0 : w1.cell? ⟨w.heap.size + 1, 0, none⟩ = some (.slice none 0 0) := Lib.cell_of_heap y1 0
        have k1 : w1.cell? ⟨w.heap.size + 1, 1, none⟩ = some (.int .i64 0) := Lib.cell_of_heap y1 1
        have k2 : w1.cell? ⟨w.heap.size + 1, 2, none⟩ = some (.int .i64 0) := Lib.cell_of_heap y1 2
        have k3 : w1.cell? ⟨w.heap.size + 1, 3, none⟩ = some (.string ⟨#[]⟩) := Lib.cell_of_heap y1 3
        have z0 := Lib.frozen_of_heap y1 0
        have z1 := Lib.frozen_of_heap y1 1
        have z2 := Lib.frozen_of_heap y1 2
        have z3 := Lib.frozen_of_heap y1 3
        clear y0 y1
        go_wp2_with fail
        have hbx := box_set (v0 := .slice none 0 0) (v1 := .int .i64 0) (v2 := .int .i64 0) (v3 := .string ⟨#[]⟩) HY.out
        have f0 := Lib.cell_of_heap hbx 0
        have f1 := Lib.cell_of_heap hbx 1
        have f2 := Lib.cell_of_heap hbx 2
        have f3 := Lib.cell_of_heap hbx 3
        refine ⟨rfl, .tuple #[.string ⟨#[]⟩, thg (.slice none 0 0) 0 0 ⟨#[]⟩], ?_, rfl, box_below HB2.out (Nat.le_succ _)⟩
        simp [results, Tryz.results58, go_sem, f0, f1, f2, f3]
      | long =>
        rw [hl] at HLn e1
        rw [e1]
        unfold lineE at HLn
        clear hdr hc hl e1
        go_enter Tryz.func58, Tryz.ntmps58
        go_wp2_with fail
        rw [← HW0.out]
        refine HLn.out.mono ?_
        rintro e w1 ⟨rfl, hw1⟩
        subst hw1
        go_wp2_with fail
        refine (HWr.out _ _).mono ?_
        rintro e w2 ⟨rfl, b2⟩
        obtain ⟨y0, y1⟩ := HX.out w2 b2
        have HY := hid_of y1
        have HB2 := hid_of (HB.out.trans (b2.mono HB.out.size))
        have k0 : w2.cell? ⟨w.heap.size + 1, 0, none⟩ = some (.slice none 0 0) := Lib.cell_of_heap y1 0
        have k1 : w2.cell? ⟨w.heap.size + 1, 1, none⟩ = some (.int .i64 0) := Lib.cell_of_heap y1 1
        have k2 : w2.cell? ⟨w.heap.size + 1, 2, none⟩ = some (.int .i64 0) := Lib.cell_of_heap y1 2
        have k3 : w2.cell? ⟨w.heap.size + 1, 3, none⟩ = some (.string ⟨#[]⟩) := Lib.cell_of_heap y1 3
        have z0 := Lib.frozen_of_heap y1 0
        have z1 := Lib.frozen_of_heap y1 1
        have z2 := Lib.frozen_of_heap y1 2
        have z3 := Lib.frozen_of_heap y1 3
        clear y0 y1 b2
        go_wp2_with fail
        have hbx := box_set (v0 := .slice none 0 0) (v1 := .int .i64 0) (v2 := .int .i64 2) (v3 := .string ⟨#[108, 105, 110, 101]⟩) HY.out
        have f0 := Lib.cell_of_heap hbx 0
        have f1 := Lib.cell_of_heap hbx 1
        have f2 := Lib.cell_of_heap hbx 2
        have f3 := Lib.cell_of_heap hbx 3
        refine ⟨rfl, .tuple #[.string ⟨#[]⟩, thg (.slice none 0 0) 0 2 ⟨#[108, 105, 110, 101]⟩], ?_, rfl, box_below HB2.out (Nat.le_succ _)⟩
        simp [results, Tryz.results58, go_sem, f0, f1, f2, f3]
      | got x n =>
        rw [hl] at HLn e1
        have hnl := line_len hl
        have hdl : ((bs s).drop a).length = s.size - a := by rw [List.length_drop, hsl]
        obtain ⟨d, hd⟩ : ∃ d, x = 36 :: d := line_head (by decide) (by decide) (by rw [← hdr]; exact hl)
        subst hd
        have hxl : d.length + 1 ≤ n := hnl.2
        dsimp only [List.tail_cons] at e1
        obtain ⟨P, hP⟩ : ∃ P : Nat, P = a + n := ⟨_, rfl⟩
        unfold lineE at HLn
        dsimp only at HLn
        rw [← hP] at HLn
        have hPs : P ≤ s.size := by omega
        have hsl1 : ∀ W, (Instr.slice 9 (.string (mk (36 :: d))) (some (.int .i64 1)) none none).run Tryz.prog W = .ok (.string (mk d)) W := by
          obtain ⟨t, ht, _, hr⟩ := Word.str_from (mk (36 :: d)) 1 1 rfl (by rw [mk_size]; simp)
          rw [bs_mk] at ht
          have : t = mk d := of_bs ht
          rw [this] at hr
          exact hr
        have HCt := hid_of (fun W => rcount_call (mk d) L.bulk (by rw [mk_size]; omega) hL.bulk.2 W)
        rw [bs_mk] at HCt
        have hbody : ((bs s).drop a).drop n = (bs s).drop P := by rw [List.drop_drop, hP]
        rw [hbody] at e1
        generalize mk (36 :: d) = X at HLn hsl1
        generalize mk d = D at hsl1 HCt
        cases hk : countS L.bulk d with
        | none =>
          rw [hk] at HCt e1
          dsimp only at e1
          rw [e1]
          unfold countE at HCt
          dsimp only at HCt
          clear hdr hc hl e1 hnl hdl hxl hbody hk
          go_enter Tryz.func58, Tryz.ntmps58
          go_wp2_with fail
          rw [← HW0.out]
          refine HLn.out.mono ?_
          rintro e w1 ⟨rfl, hw1⟩
          subst hw1
          obtain ⟨x0, _⟩ := HX.out w1 (Below.refl _ w1)
          have l0 : w1.cell? ⟨w.heap.size, 0, none⟩ = some (.int .i64 L.bulk) := Lib.cell_of_heap x0 0
          clear x0
          go_wp2_with fail
          go_region_with (go_at_call 57; refine (HCt.out _).mono ?_; rintro e wy ⟨rfl, rfl⟩)
          have HBd : Hid (Below w1.heap.size w1 w1.drew) := ⟨rfl, rfl, rfl, Nat.le_refl _, fun _ _ => rfl⟩
          clear l0
          go_wp2_with fail
          refine (HWr.out _ _).mono ?_
          rintro e w2 ⟨rfl, b2⟩
          have b3 : Below w1.heap.size w1 w2 := HBd.out.trans b2
          obtain ⟨y0, y1⟩ := HX.out w2 b3
          have HY := hid_of y1
          have HB2 := hid_of (HB.out.trans ((b3).mono HB.out.size))
          have k0 : w2.cell? ⟨w.heap.size + 1, 0, none⟩ = some (.slice none 0 0) := Lib.cell_of_heap y1 0
          have k1 : w2.cell? ⟨w.heap.size + 1, 1, none⟩ = some (.int .i64 0) := Lib.cell_of_heap y1 1
          have k2 : w2.cell? ⟨w.heap.size + 1, 2, none⟩ = some (.int .i64 0) := Lib.cell_of_heap y1 2
          have k3 : w2.cell? ⟨w.heap.size + 1, 3, none⟩ = some (.string ⟨#[]⟩) := Lib.cell_of_heap y1 3
          have z0 := Lib.frozen_of_heap y1 0
          have z1 := Lib.frozen_of_heap y1 1
          have z2 := Lib.frozen_of_heap y1 2
          have z3 := Lib.frozen_of_heap y1 3
          clear y0 y1
          clear b2 b3
          go_wp2_with fail
          have hbx := box_set (v0 := .slice none 0 0) (v1 := .int .i64 0) (v2 := .int .i64 2) (v3 := .string ⟨#[108, 101, 110, 103, 116, 104]⟩) HY.out
          have f0 := Lib.cell_of_heap hbx 0
          have f1 := Lib.cell_of_heap hbx 1
          have f2 := Lib.cell_of_heap hbx 2
          have f3 := Lib.cell_of_heap hbx 3
          refine ⟨rfl, .tuple #[.string ⟨#[]⟩, thg (.slice none 0 0) 0 2 ⟨#[108, 101, 110, 103, 116, 104]⟩], ?_, rfl, box_below HB2.out (Nat.le_succ _)⟩
          simp [results, Tryz.results58, go_sem, f0, f1, f2, f3]
        | some k =>
          rw [hk] at HCt e1
          dsimp only at e1
          unfold countE at HCt
          dsimp only at HCt
          have hkb := (count_some hk).2
          have hLb := hL.bulk.2
          have ewS : IntKind.i64.wrap ((s.size : Int) - (P : Int)) = (s.size : Int) - (P : Int) := IntWalk.i64_in _ (by omega)
          have ewK : IntKind.i64.wrap ((P : Int) + (k : Int)) = (P : Int) + (k : Int) := IntWalk.i64_in _ (by omega)
          have ewK1 : IntKind.i64.wrap ((k : Int) + 1) = (k : Int) + 1 := IntWalk.i64_in _ (by omega)
          have ewK2 : IntKind.i64.wrap ((P : Int) + (k : Int) + 1) = (P : Int) + (k : Int) + 1 := IntWalk.i64_in _ (by omega)
          have ewK3 : IntKind.i64.wrap ((P : Int) + (k : Int) + 2) = (P : Int) + (k : Int) + 2 := IntWalk.i64_in _ (by omega)
          have HE1 := hid_of e1
          have HDD := hid_of (And.intro hP hbody)
          clear hdr hc hl e1 hnl hdl hxl hk hP hbody
          go_enter Tryz.func58, Tryz.ntmps58
          go_wp2_with fail
          rw [← HW0.out]
          refine HLn.out.mono ?_
          rintro e w1 ⟨rfl, hw1⟩
          subst hw1
          obtain ⟨x0, _⟩ := HX.out w1 (Below.refl _ w1)
          have l0 : w1.cell? ⟨w.heap.size, 0, none⟩ = some (.int .i64 L.bulk) := Lib.cell_of_heap x0 0
          clear x0
          go_wp2_with fail
          go_region_with (go_at_call 57; refine (HCt.out _).mono ?_; rintro e wy ⟨rfl, rfl⟩)
          have HBd : Hid (Below w1.heap.size w1 w1.drew) := ⟨rfl, rfl, rfl, Nat.le_refl _, fun _ _ => rfl⟩
          clear l0
          by_cases hle : s.size - P ≤ k
          · have g1 : (s.size : Int) - (P : Int) ≤ (k : Int) := by omega
            have HE : Hid (endS n k ((bs s).drop P) = .more) := by
              show _ = _
              unfold endS
              rw [List.drop_drop, List.drop_of_length_le (by omega)]
            have HQ := hid_of (HE1.out.trans HE.out)
            clear HE
            obtain ⟨y0, y1⟩ := HX.out w1 (Below.refl _ w1)
            have HY := hid_of y1
            have HB2 := hid_of (HB.out.trans (HBd.out.mono HB.out.size))
            have k0 : w1.cell? ⟨w.heap.size + 1, 0, none⟩ = some (.slice none 0 0) := Lib.cell_of_heap y1 0
            have k1 : w1.cell? ⟨w.heap.size + 1, 1, none⟩ = some (.int .i64 0) := Lib.cell_of_heap y1 1
            have k2 : w1.cell? ⟨w.heap.size + 1, 2, none⟩ = some (.int .i64 0) := Lib.cell_of_heap y1 2
            have k3 : w1.cell? ⟨w.heap.size + 1, 3, none⟩ = some (.string ⟨#[]⟩) := Lib.cell_of_heap y1 3
            have z0 := Lib.frozen_of_heap y1 0
            have z1 := Lib.frozen_of_heap y1 1
            have z2 := Lib.frozen_of_heap y1 2
            have z3 := Lib.frozen_of_heap y1 3
            clear y0 y1
            go_wp2_with fail
            have hbx := box_set (v0 := .slice none 0 0) (v1 := .int .i64 0) (v2 := .int .i64 0) (v3 := .string ⟨#[]⟩) HY.out
            have f0 := Lib.cell_of_heap hbx 0
            have f1 := Lib.cell_of_heap hbx 1
            have f2 := Lib.cell_of_heap hbx 2
            have f3 := Lib.cell_of_heap hbx 3
            have g0 : ((((w1.setCell ⟨w.heap.size + 1, 0, none⟩ (.slice none 0 0)).setCell ⟨w.heap.size + 1, 1, none⟩ (.int .i64 0)).setCell ⟨w.heap.size + 1, 2, none⟩ (.int .i64 0)).setCell ⟨w.heap.size + 1, 3, none⟩ (.string ⟨#[]⟩)).drew.cell? ⟨w.heap.size + 1, 0, none⟩ = some (.slice none 0 0) := f0
            have g1' : ((((w1.setCell ⟨w.heap.size + 1, 0, none⟩ (.slice none 0 0)).setCell ⟨w.heap.size + 1, 1, none⟩ (.int .i64 0)).setCell ⟨w.heap.size + 1, 2, none⟩ (.int .i64 0)).setCell ⟨w.heap.size + 1, 3, none⟩ (.string ⟨#[]⟩)).drew.cell? ⟨w.heap.size + 1, 1, none⟩ = some (.int .i64 0) := f1
            have g2' : ((((w1.setCell ⟨w.heap.size + 1, 0, none⟩ (.slice none 0 0)).setCell ⟨w.heap.size + 1, 1, none⟩ (.int .i64 0)).setCell ⟨w.heap.size + 1, 2, none⟩ (.int .i64 0)).setCell ⟨w.heap.size + 1, 3, none⟩ (.string ⟨#[]⟩)).drew.cell? ⟨w.heap.size + 1, 2, none⟩ = some (.int .i64 0) := f2
            have g3' : ((((w1.setCell ⟨w.heap.size + 1, 0, none⟩ (.slice none 0 0)).setCell ⟨w.heap.size + 1, 1, none⟩ (.int .i64 0)).setCell ⟨w.heap.size + 1, 2, none⟩ (.int .i64 0)).setCell ⟨w.heap.size + 1, 3, none⟩ (.string ⟨#[]⟩)).drew.cell? ⟨w.heap.size + 1, 3, none⟩ = some (.string ⟨#[]⟩) := f3
            refine ⟨rfl, .tuple #[.string ⟨#[]⟩, thg (.slice none 0 0) 0 0 ⟨#[]⟩], ?_, (by rw [HQ.out]; rfl), box_below HB2.out (Nat.le_succ _)⟩
            simp [results, Tryz.results58, go_sem, g0, g1', g2', g3']
          · have g1 : ¬ (s.size : Int) - (P : Int) ≤ (k : Int) := by omega
            obtain ⟨y, hy⟩ : ∃ y, (bs s)[P + k]? = some y := ⟨_, get_bs s (P + k) (by omega)⟩
            have hixy := index_at s (P + k) y hy ((P : Int) + (k : Int)) (by omega)
            have hdy : ((bs s).drop P).drop k = y :: (bs s).drop (P + k + 1) := by
              rw [List.drop_drop]
              obtain ⟨h2, h3⟩ := List.getElem?_eq_some_iff.1 hy
              rw [List.drop_eq_getElem_cons h2, h3]
            by_cases h1 : s.size - P = k + 1
            · have hnil : (bs s).drop (P + k + 1) = [] := List.drop_of_length_le (by omega)
              by_cases h13 : y = 13
              · subst h13
                have HE : Hid (endS n k ((bs s).drop P) = .more) := by
                  show _ = _
                  unfold endS
                  rw [hdy, hnil]
                  rfl
                have g2 : ¬ (k : Int) + 1 < (s.size : Int) - (P : Int) := by omega
                have g3 : ((s.size : Int) - (P : Int) == (k : Int) + 1) = true := by rw [beq_iff_eq]; omega
                have HQ := hid_of (HE1.out.trans HE.out)
                clear HE hdy hy hnil h1 hle
                obtain ⟨y0, y1⟩ := HX.out w1 (Below.refl _ w1)
                have HY := hid_of y1
                have HB2 := hid_of (HB.out.trans (HBd.out.mono HB.out.size))
                have k0 : w1.cell? ⟨w.heap.size + 1, 0, none⟩ = some (.slice none 0 0) := Lib.cell_of_heap y1 0
                have k1 : w1.cell? ⟨w.heap.size + 1, 1, none⟩ = some (.int .i64 0) := Lib.cell_of_heap y1 1
                have k2 : w1.cell? ⟨w.heap.size + 1, 2, none⟩ = some (.int .i64 0) := Lib.cell_of_heap y1 2
                have k3 : w1.cell? ⟨w.heap.size + 1, 3, none⟩ = some (.string ⟨#[]⟩) := Lib.cell_of_heap y1 3
                have z0 := Lib.frozen_of_heap y1 0
                have z1 := Lib.frozen_of_heap y1 1
                have z2 := Lib.frozen_of_heap y1 2
                have z3 := Lib.frozen_of_heap y1 3
                clear y0 y1
                go_wp2_with fail
                have hbx := box_set (v0 := .slice none 0 0) (v1 := .int .i64 0) (v2 := .int .i64 0) (v3 := .string ⟨#[]⟩) HY.out
                have f0 := Lib.cell_of_heap hbx 0
                have f1 := Lib.cell_of_heap hbx 1
                have f2 := Lib.cell_of_heap hbx 2
                have f3 := Lib.cell_of_heap hbx 3
                have g0 : ((((w1.setCell ⟨w.heap.size + 1, 0, none⟩ (.slice none 0 0)).setCell ⟨w.heap.size + 1, 1, none⟩ (.int .i64 0)).setCell ⟨w.heap.size + 1, 2, none⟩ (.int .i64 0)).setCell ⟨w.heap.size + 1, 3, none⟩ (.string ⟨#[]⟩)).drew.cell? ⟨w.heap.size + 1, 0, none⟩ = some (.slice none 0 0) := f0
                have g1' : ((((w1.setCell ⟨w.heap.size + 1, 0, none⟩ (.slice none 0 0)).setCell ⟨w.heap.size + 1, 1, none⟩ (.int .i64 0)).setCell ⟨w.heap.size + 1, 2, none⟩ (.int .i64 0)).setCell ⟨w.heap.size + 1, 3, none⟩ (.string ⟨#[]⟩)).drew.cell? ⟨w.heap.size + 1, 1, none⟩ = some (.int .i64 0) := f1
                have g2' : ((((w1.setCell ⟨w.heap.size + 1, 0, none⟩ (.slice none 0 0)).setCell ⟨w.heap.size + 1, 1, none⟩ (.int .i64 0)).setCell ⟨w.heap.size + 1, 2, none⟩ (.int .i64 0)).setCell ⟨w.heap.size + 1, 3, none⟩ (.string ⟨#[]⟩)).drew.cell? ⟨w.heap.size + 1, 2, none⟩ = some (.int .i64 0) := f2
                have g3' : ((((w1.setCell ⟨w.heap.size + 1, 0, none⟩ (.slice none 0 0)).setCell ⟨w.heap.size + 1, 1, none⟩ (.int .i64 0)).setCell ⟨w.heap.size + 1, 2, none⟩ (.int .i64 0)).setCell ⟨w.heap.size + 1, 3, none⟩ (.string ⟨#[]⟩)).drew.cell? ⟨w.heap.size + 1, 3, none⟩ = some (.string ⟨#[]⟩) := f3
                refine ⟨rfl, .tuple #[.string ⟨#[]⟩, thg (.slice none 0 0) 0 0 ⟨#[]⟩], ?_, (by rw [HQ.out]; rfl), box_below HB2.out (Nat.le_succ _)⟩
                simp [results, Tryz.results58, go_sem, g0, g1', g2', g3']
              · have e13 : ((y.toNat : Int) == 13) = false := ne_int (d := 13) h13
                have b13 : ((y.toNat : Int) != 13) = true := by unfold bne; rw [e13]; rfl
                have HE : Hid (endS n k ((bs s).drop P) = .fault wEnd) := by
                  show _ = _
                  unfold endS
                  rw [hdy, hnil]
                  show (if y = 13 then BR.more else BR.fault wEnd) = _
                  rw [if_neg h13]
                have HQ := hid_of (HE1.out.trans HE.out)
                clear HE hdy hy hnil h1 hle h13
                go_wp2_with fail
                refine (HWr.out _ _).mono ?_
                rintro e w2 ⟨rfl, b2⟩
                have b3 : Below w1.heap.size w1 w2 := HBd.out.trans b2
                obtain ⟨y0, y1⟩ := HX.out w2 b3
                have HY := hid_of y1
                have HB2 := hid_of (HB.out.trans ((b3).mono HB.out.size))
                have k0 : w2.cell? ⟨w.heap.size + 1, 0, none⟩ = some (.slice none 0 0) := Lib.cell_of_heap y1 0
                have k1 : w2.cell? ⟨w.heap.size + 1, 1, none⟩ = some (.int .i64 0) := Lib.cell_of_heap y1 1
                have k2 : w2.cell? ⟨w.heap.size + 1, 2, none⟩ = some (.int .i64 0) := Lib.cell_of_heap y1 2
                have k3 : w2.cell? ⟨w.heap.size + 1, 3, none⟩ = some (.string ⟨#[]⟩) := Lib.cell_of_heap y1 3
                have z0 := Lib.frozen_of_heap y1 0
                have z1 := Lib.frozen_of_heap y1 1
                have z2 := Lib.frozen_of_heap y1 2
                have z3 := Lib.frozen_of_heap y1 3
                clear y0 y1
                clear b2 b3
                go_wp2_with fail
                have hbx := box_set (v0 := .slice none 0 0) (v1 := .int .i64 0) (v2 := .int .i64 2) (v3 := .string ⟨#[101, 110, 100]⟩) HY.out
                have f0 := Lib.cell_of_heap hbx 0
                have f1 := Lib.cell_of_heap hbx 1
                have f2 := Lib.cell_of_heap hbx 2
                have f3 := Lib.cell_of_heap hbx 3
                refine ⟨rfl, .tuple #[.string ⟨#[]⟩, thg (.slice none 0 0) 0 2 ⟨#[101, 110, 100]⟩], ?_, (by rw [HQ.out]; rfl), box_below HB2.out (Nat.le_succ _)⟩
                simp [results, Tryz.results58, go_sem, f0, f1, f2, f3]
            · obtain ⟨z, hz2⟩ : ∃ z, (bs s)[P + k + 1]? = some z := ⟨_, get_bs s (P + k + 1) (by omega)⟩
              have hixz := index_at s (P + k + 1) z hz2 ((P : Int) + (k : Int) + 1) (by omega)
              have hdz : (bs s).drop (P + k + 1) = z :: (bs s).drop (P + k + 1 + 1) := by
                obtain ⟨h2, h3⟩ := List.getElem?_eq_some_iff.1 hz2
                rw [List.drop_eq_getElem_cons h2, h3]
              have g2 : (k : Int) + 1 < (s.size : Int) - (P : Int) := by omega
              have HEe : Hid (endS n k ((bs s).drop P) = if y = 13 ∧ z = 10 then .done (n + k + 2) (((bs s).drop P).take k) else .fault wEnd) := by
                show _ = _
                unfold endS
                rw [hdy, hdz]
              by_cases h13 : y = 13
              · by_cases h10 : z = 10
                · subst h13
                  subst h10
                  have HQ := hid_of (HE1.out.trans (HEe.out.trans (if_pos ⟨rfl, rfl⟩)))
                  have g3 : ((s.size : Int) - (P : Int) == (k : Int) + 1) = false := by rw [beq_eq_false_iff_ne]; omega
                  have hsm := str_mid s P (P + k) (P : Int) ((P : Int) + (k : Int)) rfl (by omega) (by omega) (by omega)
                  rw [Nat.add_sub_cancel_left] at hsm
                  have HNx : Hid (((a + (n + k + 2) : Nat) : Int) = (P : Int) + (k : Int) + 2) := by show _ = _; have := HDD.out.1; omega
                  obtain ⟨T, hT⟩ : ∃ T, T = mk (((bs s).drop P).take k) := ⟨_, rfl⟩
                  rw [← hT] at hsm
                  have HT := hid_of hT
                  clear hT
                  clear HEe hdy hy hdz hz2 h1 hle
                  obtain ⟨y0, y1⟩ := HX.out w1 (Below.refl _ w1)
                  have HY := hid_of y1
                  have HB2 := hid_of (HB.out.trans (HBd.out.mono HB.out.size))
                  have k0 : w1.cell? ⟨w.heap.size + 1, 0, none⟩ = some (.slice none 0 0) := Lib.cell_of_heap y1 0
                  have k1 : w1.cell? ⟨w.heap.size + 1, 1, none⟩ = some (.int .i64 0) := Lib.cell_of_heap y1 1
                  have k2 : w1.cell? ⟨w.heap.size + 1, 2, none⟩ = some (.int .i64 0) := Lib.cell_of_heap y1 2
                  have k3 : w1.cell? ⟨w.heap.size + 1, 3, none⟩ = some (.string ⟨#[]⟩) := Lib.cell_of_heap y1 3
                  have z0 := Lib.frozen_of_heap y1 0
                  have z1 := Lib.frozen_of_heap y1 1
                  have z2 := Lib.frozen_of_heap y1 2
                  have z3 := Lib.frozen_of_heap y1 3
                  clear y0 y1
                  go_wp2_with fail
                  have hbx := box_set (v0 := .slice none 0 0) (v1 := .int .i64 ((P : Int) + (k : Int) + 2)) (v2 := .int .i64 1) (v3 := .string ⟨#[]⟩) HY.out
                  have f0 := Lib.cell_of_heap hbx 0
                  have f1 := Lib.cell_of_heap hbx 1
                  have f2 := Lib.cell_of_heap hbx 2
                  have f3 := Lib.cell_of_heap hbx 3
                  have g0 : ((((w1.setCell ⟨w.heap.size + 1, 0, none⟩ (.slice none 0 0)).setCell ⟨w.heap.size + 1, 1, none⟩ (.int .i64 ((P : Int) + (k : Int) + 2))).setCell ⟨w.heap.size + 1, 2, none⟩ (.int .i64 1)).setCell ⟨w.heap.size + 1, 3, none⟩ (.string ⟨#[]⟩)).drew.cell? ⟨w.heap.size + 1, 0, none⟩ = some (.slice none 0 0) := f0
                  have g1' : ((((w1.setCell ⟨w.heap.size + 1, 0, none⟩ (.slice none 0 0)).setCell ⟨w.heap.size + 1, 1, none⟩ (.int .i64 ((P : Int) + (k : Int) + 2))).setCell ⟨w.heap.size + 1, 2, none⟩ (.int .i64 1)).setCell ⟨w.heap.size + 1, 3, none⟩ (.string ⟨#[]⟩)).drew.cell? ⟨w.heap.size + 1, 1, none⟩ = some (.int .i64 ((P : Int) + (k : Int) + 2)) := f1
                  have g2' : ((((w1.setCell ⟨w.heap.size + 1, 0, none⟩ (.slice none 0 0)).setCell ⟨w.heap.size + 1, 1, none⟩ (.int .i64 ((P : Int) + (k : Int) + 2))).setCell ⟨w.heap.size + 1, 2, none⟩ (.int .i64 1)).setCell ⟨w.heap.size + 1, 3, none⟩ (.string ⟨#[]⟩)).drew.cell? ⟨w.heap.size + 1, 2, none⟩ = some (.int .i64 1) := f2
                  have g3' : ((((w1.setCell ⟨w.heap.size + 1, 0, none⟩ (.slice none 0 0)).setCell ⟨w.heap.size + 1, 1, none⟩ (.int .i64 ((P : Int) + (k : Int) + 2))).setCell ⟨w.heap.size + 1, 2, none⟩ (.int .i64 1)).setCell ⟨w.heap.size + 1, 3, none⟩ (.string ⟨#[]⟩)).drew.cell? ⟨w.heap.size + 1, 3, none⟩ = some (.string ⟨#[]⟩) := f3
                  refine ⟨rfl, .tuple #[.string T, thg (.slice none 0 0) ((P : Int) + (k : Int) + 2) 1 ⟨#[]⟩], ?_, (by rw [HQ.out, HT.out]; unfold bulkE; dsimp only; rw [HNx.out]), box_below HB2.out (Nat.le_succ _)⟩
                  simp [results, Tryz.results58, go_sem, g0, g1', g2', g3']
                · have e10 : ((z.toNat : Int) == 10) = false := ne_int (d := 10) h10
                  have b10 : ((z.toNat : Int) != 10) = true := by unfold bne; rw [e10]; rfl
                  have HQ := hid_of (HE1.out.trans (HEe.out.trans (if_neg (fun q => h10 q.2))))
                  subst h13
                  clear HEe hdy hy hdz hz2 h1 hle h10
                  go_wp2_with fail
                  refine (HWr.out _ _).mono ?_
                  rintro e w2 ⟨rfl, b2⟩
                  have b3 : Below w1.heap.size w1 w2 := HBd.out.trans b2
                  obtain ⟨y0, y1⟩ := HX.out w2 b3
                  have HY := hid_of y1
                  have HB2 := hid_of (HB.out.trans ((b3).mono HB.out.size))
                  have k0 : w2.cell? ⟨w.heap.size + 1, 0, none⟩ = some (.slice none 0 0) := Lib.cell_of_heap y1 0
                  have k1 : w2.cell? ⟨w.heap.size + 1, 1, none⟩ = some (.int .i64 0) := Lib.cell_of_heap y1 1
                  have k2 : w2.cell? ⟨w.heap.size + 1, 2, none⟩ = some (.int .i64 0) := Lib.cell_of_heap y1 2
                  have k3 : w2.cell? ⟨w.heap.size + 1, 3, none⟩ = some (.string ⟨#[]⟩) := Lib.cell_of_heap y1 3
                  have z0 := Lib.frozen_of_heap y1 0
                  have z1 := Lib.frozen_of_heap y1 1
                  have z2 := Lib.frozen_of_heap y1 2
                  have z3 := Lib.frozen_of_heap y1 3
                  clear y0 y1
                  clear b2 b3
                  go_wp2_with fail
                  have hbx := box_set (v0 := .slice none 0 0) (v1 := .int .i64 0) (v2 := .int .i64 2) (v3 := .string ⟨#[101, 110, 100]⟩) HY.out
                  have f0 := Lib.cell_of_heap hbx 0
                  have f1 := Lib.cell_of_heap hbx 1
                  have f2 := Lib.cell_of_heap hbx 2
                  have f3 := Lib.cell_of_heap hbx 3
                  refine ⟨rfl, .tuple #[.string ⟨#[]⟩, thg (.slice none 0 0) 0 2 ⟨#[101, 110, 100]⟩], ?_, (by rw [HQ.out]; rfl), box_below HB2.out (Nat.le_succ _)⟩
                  simp [results, Tryz.results58, go_sem, f0, f1, f2, f3]
              · have e13 : ((y.toNat : Int) == 13) = false := ne_int (d := 13) h13
                have b13 : ((y.toNat : Int) != 13) = true := by unfold bne; rw [e13]; rfl
                have HQ := hid_of (HE1.out.trans (HEe.out.trans (if_neg (fun q => h13 q.1))))
                clear HEe hdy hy hdz hz2 h1 hle h13
                go_wp2_with fail
                refine (HWr.out _ _).mono ?_
                rintro e w2 ⟨rfl, b2⟩
                have b3 : Below w1.heap.size w1 w2 := HBd.out.trans b2
                obtain ⟨y0, y1⟩ := HX.out w2 b3
                have HY := hid_of y1
                have HB2 := hid_of (HB.out.trans ((b3).mono HB.out.size))
                have k0 : w2.cell? ⟨w.heap.size + 1, 0, none⟩ = some (.slice none 0 0) := Lib.cell_of_heap y1 0
                have k1 : w2.cell? ⟨w.heap.size + 1, 1, none⟩ = some (.int .i64 0) := Lib.cell_of_heap y1 1
                have k2 : w2.cell? ⟨w.heap.size + 1, 2, none⟩ = some (.int .i64 0) := Lib.cell_of_heap y1 2
                have k3 : w2.cell? ⟨w.heap.size + 1, 3, none⟩ = some (.string ⟨#[]⟩) := Lib.cell_of_heap y1 3
                have z0 := Lib.frozen_of_heap y1 0
                have z1 := Lib.frozen_of_heap y1 1
                have z2 := Lib.frozen_of_heap y1 2
                have z3 := Lib.frozen_of_heap y1 3
                clear y0 y1
                clear b2 b3
                go_wp2_with fail
                have hbx := box_set (v0 := .slice none 0 0) (v1 := .int .i64 0) (v2 := .int .i64 2) (v3 := .string ⟨#[101, 110, 100]⟩) HY.out
                have f0 := Lib.cell_of_heap hbx 0
                have f1 := Lib.cell_of_heap hbx 1
                have f2 := Lib.cell_of_heap hbx 2
                have f3 := Lib.cell_of_heap hbx 3
                refine ⟨rfl, .tuple #[.string ⟨#[]⟩, thg (.slice none 0 0) 0 2 ⟨#[101, 110, 100]⟩], ?_, (by rw [HQ.out]; rfl), box_below HB2.out (Nat.le_succ _)⟩
                simp [results, Tryz.results58, go_sem, f0, f1, f2, f3]
    · have e36 : ((c.toNat : Int) == 36) = false := ne_int (d := 36) h36
      have b36 : ((c.toNat : Int) != 36) = true := by unfold bne; rw [e36]; rfl
      have HE : Hid (bulkS L ((bs s).drop a) = .fault wBulk) := by
        rw [hdr]
        show (if c ≠ 36 then BR.fault wBulk else _) = _
        rw [if_pos h36]
      rw [HE.out]
      clear hdr hc h36 HLn HE
      go_enter Tryz.func58, Tryz.ntmps58
      go_wp2_with fail
      rw [← HW0.out]
      refine (HWr.out _ _).mono ?_
      rintro e w2 ⟨rfl, b2⟩
      obtain ⟨y0, y1⟩ := HX.out w2 b2
      have HY := hid_of y1
      have HB2 := hid_of (HB.out.trans ((b2).mono HB.out.size))
      have k0 : w2.cell? ⟨w.heap.size + 1, 0, none⟩ = some (.slice none 0 0) := Lib.cell_of_heap y1 0
      have k1 : w2.cell? ⟨w.heap.size + 1, 1, none⟩ = some (.int .i64 0) := Lib.cell_of_heap y1 1
      have k2 : w2.cell? ⟨w.heap.size + 1, 2, none⟩ = some (.int .i64 0) := Lib.cell_of_heap y1 2
      have k3 : w2.cell? ⟨w.heap.size + 1, 3, none⟩ = some (.string ⟨#[]⟩) := Lib.cell_of_heap y1 3
      have z0 := Lib.frozen_of_heap y1 0
      have z1 := Lib.frozen_of_heap y1 1
      have z2 := Lib.frozen_of_heap y1 2
      have z3 := Lib.frozen_of_heap y1 3
      clear y0 y1
      clear b2
      go_wp2_with fail
      have hbx := box_set (v0 := .slice none 0 0) (v1 := .int .i64 0) (v2 := .int .i64 2) (v3 := .string ⟨#[98, 117, 108, 107]⟩) HY.out
      have f0 := Lib.cell_of_heap hbx 0
      have f1 := Lib.cell_of_heap hbx 1
      have f2 := Lib.cell_of_heap hbx 2
      have f3 := Lib.cell_of_heap hbx 3
      refine ⟨rfl, .tuple #[.string ⟨#[]⟩, thg (.slice none 0 0) 0 2 ⟨#[98, 117, 108, 107]⟩], ?_, rfl, box_below HB2.out (Nat.le_succ _)⟩
      simp [results, Tryz.results58, go_sem, f0, f1, f2, f3]
end Go.Proofs.YtfkilbhhpipjbaaGreatDoor.RefBulk
