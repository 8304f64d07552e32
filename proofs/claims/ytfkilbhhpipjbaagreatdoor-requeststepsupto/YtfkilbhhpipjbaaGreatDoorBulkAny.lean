/- bulk, whatever is there. -/
import Derived.Test.YtfkilbhhpipjbaaGreatDoorBulk2
namespace Go.Proofs.YtfkilbhhpipjbaaGreatDoor.BulkAny
open Go.RowKit
open Go.Lib (decDigits)
open Go.Proofs.YtfkilbhhpipjbaaGreatDoor.TextMath
open Go.Proofs.YtfkilbhhpipjbaaGreatDoor.ReqMath
open Go.Proofs.YtfkilbhhpipjbaaGreatDoor.Base
open Go.Proofs.YtfkilbhhpipjbaaGreatDoor.Line
open Go.Proofs.YtfkilbhhpipjbaaGreatDoor.Small
open Go.Proofs.YtfkilbhhpipjbaaGreatDoor.Append
open Go.Proofs.YtfkilbhhpipjbaaGreatDoor.Bulk
open Go.Proofs.YtfkilbhhpipjbaaGreatDoor.Bulk2
set_option linter.unusedVariables false

/- limits that may be -/
structure Lok (L : Lim) : Prop where
  bulk : 1 ≤ L.bulk ∧ L.bulk ≤ 1048576
  args : 1 ≤ L.args ∧ L.args ≤ 65536
  line : 32 ≤ L.line ∧ L.line ≤ 65536
/- the reader: what is left, the words of the begun thing -/
structure RS (b : Nat) (L : Lim) (lv : Value) (t : ByteArray) (k : Nat) (wv : Value) (ws : List (List UInt8)) (wanted read used : Nat) (w : World) : Prop where
  rb : RB b L lv k wv wanted read used ⟨#[]⟩ w
  sl : BySl w lv t
  wk : WS w wv ws
  kl : k ≤ t.size
  kn : nl ((bs t).take k) = none
/- the bounds that a stream keeps to -/
structure Bd (t : ByteArray) (ws : List (List UInt8)) (wanted read used : Nat) : Prop where
  ht : t.size ≤ 67108864
  hws : ws.length ≤ 67108864
  hwanted : wanted ≤ 67108864
  hread : read + t.size ≤ 67108864
  hused : used + read + t.size ≤ 67108864
def BulkEnd (b : Nat) (L : Lim) (lv : Value) (t : ByteArray) (k : Nat) (wv : Value) (ws : List (List UInt8)) (wanted read used : Nat) (w : World) (e : Ending) (w' : World) : BR → Prop
  | .more => e = gaveUp [] ∧ ∃ k', RS b L lv t k' wv ws wanted read used w' ∧ Fr (FB b wv) w w'
  | .fault wd => e = gaveUp wd ∧ RB b L lv k wv wanted read used ⟨#[]⟩ w' ∧ Fr (FB b wv) w w'
  | .done n x => e = .returned (.tuple #[]) ∧ n ≤ t.size ∧ ∃ lv' wv', RS b L lv' (t.extract n t.size) 0 wv' (ws ++ [x]) (wanted - 1) (read + n) used w' ∧ (∀ g, slBlock lv' = some g → slBlock lv = some g) ∧ (∀ g, wv'.ownBlock = some g → wv.ownBlock = some g ∨ w.heap.size ≤ g) ∧ Fr (FB b wv) w w'
theorem ws_later {w w' : World} {v : Value} {ws : List (List UInt8)} (h : WS w v ws) (hb : ∀ g, v.ownBlock = some g → w'.heap[g]? = w.heap[g]?) : WS w' v ws := by
  refine ⟨h.1, ?_⟩
  rcases h.2 with x | ⟨g, cp, cur, x1, x2, x3, x4⟩
  · exact Or.inl x
  · exact Or.inr ⟨g, cp, cur, x1, x2, (hb g (by rw [x1]; rfl)).trans x3, x4⟩
theorem ws_ne {b : Nat} {L : Lim} {lv : Value} {k : Nat} {wv : Value} {wanted read used : Nat} {ft : ByteArray} {w : World} {v : Value} {ws : List (List UInt8)} (h : RB b L lv k wv wanted read used ft w) (hw : WS w v ws) : v.ownBlock ≠ some b := by
  intro hx
  obtain ⟨cc, hcc⟩ := owns_kind hw b hx
  unfold RB at h
  rw [hcc] at h
  cases h
theorem by_ne {b : Nat} {L : Lim} {lv : Value} {k : Nat} {wv : Value} {wanted read used : Nat} {ft : ByteArray} {w : World} {v : Value} {t : ByteArray} (h : RB b L lv k wv wanted read used ft w) (hs : BySl w v t) : slBlock v ≠ some b := by
  intro hx
  obtain ⟨cc, hcc⟩ := by_kind hs b hx
  unfold RB at h
  rw [hcc] at h
  cases h
theorem by_wsne {w : World} {v u : Value} {t : ByteArray} {ws : List (List UInt8)} (hs : BySl w v t) (hw : WS w u ws) : ∀ g, slBlock v = some g → u.ownBlock ≠ some g := by
  intro g hg hx
  obtain ⟨c1, h1⟩ := by_kind hs g hg
  obtain ⟨c2, h2⟩ := owns_kind hw g hx
  rw [h1] at h2
  cases h2
/- a call that touches the reader's own block alone -/
theorem rs_one {b : Nat} {L : Lim} {lv : Value} {t : ByteArray} {k k' : Nat} {wv : Value} {ws : List (List UInt8)} {wanted read used wanted' read' used' : Nat} {w w' : World} (h : RS b L lv t k wv ws wanted read used w) (hf : Fr (fun q => q = b) w w') (hr : RB b L lv k' wv wanted' read' used' ⟨#[]⟩ w') (h1 : k' ≤ t.size) (h2 : nl ((bs t).take k') = none) : RS b L lv t k' wv ws wanted' read' used' w' :=
  ⟨hr, h.sl.later (fun g hg => hf.block g (by obtain ⟨c, hc⟩ := by_kind h.sl g hg; exact lt_of hc) (fun e => by_ne h.rb h.sl (e ▸ hg))), ws_later h.wk (fun g hg => hf.block g (by obtain ⟨c, hc⟩ := owns_kind h.wk g hg; exact lt_of hc) (fun e => ws_ne h.rb h.wk (e ▸ hg))), h1, h2⟩
theorem rs_below {b : Nat} {L : Lim} {lv : Value} {t : ByteArray} {k : Nat} {wv : Value} {ws : List (List UInt8)} {wanted read used : Nat} {w w' : World} (h : RS b L lv t k wv ws wanted read used w) (hf : Below w.heap.size w w') : RS b L lv t k wv ws wanted read used w' :=
  ⟨rb_later h.rb hf, by_below h.sl hf, owns_below h.wk hf, h.kl, h.kn⟩
theorem wide1 {b : Nat} {wv : Value} {w w' : World} (h : Fr (fun q => q = b) w w') : Fr (FB b wv) w w' := h.wide fun x hx => Or.inl hx
theorem list_of (t : ByteArray) : (bs t = []) ∨ ∃ c r, bs t = c :: r := by
  cases h : bs t with
  | nil => exact Or.inl rfl
  | cons c r => exact Or.inr ⟨c, r, rfl⟩
theorem bulk_any (b : Nat) (L : Lim) (lv : Value) (t : ByteArray) (k : Nat) (wv : Value) (ws : List (List UInt8)) (wanted read used : Nat) (w : World) (hL : Lok L) (h : RS b L lv t k wv ws wanted read used w) (hd : Bd t ws wanted read used) (hwt : 1 ≤ wanted) (hh : Has w) (hb8 : 8 ≤ b) :
    Calls Tryz.prog 70 #[.pointer (some ⟨b, 0, none⟩)] w fun e w' => BulkEnd b L lv t k wv ws wanted read used w e w' (bulkS L (bs t)) := by
  rcases list_of t with ht | ⟨c, r, ht⟩
  · have e1 : bulkS L (bs t) = .more := by rw [ht]; rfl
    have e2 : lineS L.line (bs t) = .more := by rw [ht]; rfl
    rw [e1]
    refine (bulk_more b L lv k wv wanted read used _ t w h.rb h.sl h.kl h.kn hd.ht hL.line.2 [] (Or.inl ht) e2).mono ?_
    rintro e w' ⟨rfl, h1, h2, h3⟩
    exact ⟨rfl, t.size, rs_one h h3 h2 (Nat.le_refl _) (by rw [List.take_of_length_le (by rw [len_bs]; omega)]; exact h1), wide1 h3⟩
  · by_cases hc : c = 36
    · subst hc
      have e0 : bulkS L (bs t) = match lineS L.line (bs t) with
          | .more => .more
          | .long => .fault wLine
          | .got x n => match countS L.bulk x.tail with
            | none => .fault wLength
            | some k => endS n k ((bs t).drop n) := by rw [ht]; rfl
      cases hl : lineS L.line (bs t) with
      | more =>
        rw [hl] at e0
        rw [e0]
        refine (bulk_more b L lv k wv wanted read used _ t w h.rb h.sl h.kl h.kn hd.ht hL.line.2 r (Or.inr ht) hl).mono ?_
        rintro e w' ⟨rfl, h1, h2, h3⟩
        exact ⟨rfl, t.size, rs_one h h3 h2 (Nat.le_refl _) (by rw [List.take_of_length_le (by rw [len_bs]; omega)]; exact h1), wide1 h3⟩
      | long =>
        rw [hl] at e0
        rw [e0]
        refine (bulk_long b L lv k wv wanted read used _ t w h.rb h.sl h.kl h.kn hd.ht hL.line.2 r ht hl).mono ?_
        rintro e w' ⟨rfl, h1⟩
        exact ⟨rfl, rb_later h.rb h1, Fr.of_below h1⟩
      | got x n =>
        rw [hl] at e0
        dsimp only at e0
        cases hcs : countS L.bulk x.tail with
        | none =>
          rw [hcs] at e0
          rw [e0]
          refine (bulk_length b L lv k wv wanted read used _ t w h.rb h.sl h.kl h.kn hd.ht hL.line.2 hL.bulk.2 hh r x n ht hl hcs).mono ?_
          rintro e w' ⟨rfl, h1⟩
          exact ⟨rfl, rb_later h.rb h1, Fr.of_below h1⟩
        | some kk =>
          rw [hcs] at e0
          dsimp only at e0
          obtain ⟨a, cap, hlv, _⟩ := id h.sl
          subst hlv
          have h1 : 1 ≤ t.size := by rw [← len_bs, ht]; simp
          obtain ⟨i, hni, hit, hkb, hM⟩ := mid_of b L a cap k wv wanted read used _ t w h.rb h.sl h.kl h.kn hd.ht hL.line.2 hL.bulk.2 hh r x n kk ht hl hcs
          subst hni
          obtain ⟨mm, nn, T2, T3, a2, c2, a3, c3, a4, c4, Y, Z, hT, hmm, hT2, hT3, hnn, eT2, eY, eZ, hB2⟩ := tail_of t i kk w a cap h.sl hit
          have hmk : ((bs t).drop (i + 1)).drop mm = ((bs t).drop (i + 1)).drop kk := by
            by_cases q : kk ≤ t.size - (i + 1)
            · rw [hmm, Nat.min_eq_left q]
            · rw [hmm, Nat.min_eq_right (by omega), List.drop_of_length_le (by rw [List.length_drop, len_bs]; omega), List.drop_of_length_le (by rw [List.length_drop, len_bs]; omega)]
          have hml : (((bs t).drop (i + 1)).drop kk).length = T3.size := by rw [← hmk, List.length_drop, List.length_drop, len_bs]; omega
          rw [hmk] at eY
          have hcmp : (Y.toList == Z.toList) = ((((bs t).drop (i + 1)).drop kk).take nn == ([13, 10] : List UInt8).take nn) := by
            rw [Lib.toList_data, Lib.toList_data]
            show (bs Y == bs Z) = _
            rw [eY, eZ, bs_mk]
          unfold endS at e0
          match hq : ((bs t).drop (i + 1)).drop kk with
          | [] =>
            rw [hq] at e0 hml hcmp
            dsimp only at e0
            rw [e0]
            have hn0 : nn = 0 := by simp at hml; omega
            rw [hn0] at hcmp
            refine (bulk_wait b L a cap k wv wanted read used _ t w h.rb hd.ht h1 i kk hM mm nn T2 T3 a2 c2 a3 c3 a4 c4 Y Z hT (by rw [hcmp]; rfl) (by omega)).mono ?_
            rintro e w' ⟨rfl, hb⟩
            exact ⟨rfl, k, rs_below h hb, Fr.of_below hb⟩
          | [y] =>
            rw [hq] at e0 hml hcmp
            dsimp only at e0
            have hn0 : nn = 1 := by simp at hml; omega
            rw [hn0] at hcmp
            by_cases hy : y = 13
            · rw [if_pos hy] at e0
              rw [e0]
              refine (bulk_wait b L a cap k wv wanted read used _ t w h.rb hd.ht h1 i kk hM mm nn T2 T3 a2 c2 a3 c3 a4 c4 Y Z hT (by rw [hcmp, hy]; rfl) (by omega)).mono ?_
              rintro e w' ⟨rfl, hb⟩
              exact ⟨rfl, k, rs_below h hb, Fr.of_below hb⟩
            · rw [if_neg hy] at e0
              rw [e0]
              refine (bulk_end b L a cap k wv wanted read used _ t w h.rb hd.ht h1 i kk hM mm nn T2 T3 a2 c2 a3 c3 a4 c4 Y Z hT (by rw [hcmp, beq_eq_false_iff_ne]; intro q; simp at q; exact hy q)).mono ?_
              rintro e w' ⟨rfl, hb⟩
              exact ⟨rfl, rb_later h.rb hb, Fr.of_below hb⟩
          | y :: z :: r2 =>
            rw [hq] at e0 hml hcmp
            dsimp only at e0
            have hn0 : nn = 2 := by simp at hml; omega
            rw [hn0] at hcmp
            by_cases hy : y = 13 ∧ z = 10
            · rw [if_pos hy] at e0
              rw [e0]
              have hkl : kk + 2 ≤ T2.size := by simp at hml; omega
              refine (bulk_done b L a cap k wv wanted read used _ t w h.rb h.sl hd.ht (by have := hd.hread; omega) ⟨hwt, hd.hwanted⟩ hh hb8 h1 i kk hM mm nn T2 T3 a2 c2 a3 c3 a4 c4 Y Z hT (by rw [hcmp, hy.1, hy.2]; rfl) hn0 hB2 hkl hT2 hit ws h.wk hd.hws).mono ?_
              rintro e w' ⟨rfl, lv', wv', q1, q2, q3, q4, q5, q6⟩
              rw [eT2] at q4
              exact ⟨rfl, by omega, lv', wv', ⟨q1, q2, q4, Nat.zero_le _, rfl⟩, q3, q5, q6⟩
            · rw [if_neg hy] at e0
              rw [e0]
              refine (bulk_end b L a cap k wv wanted read used _ t w h.rb hd.ht h1 i kk hM mm nn T2 T3 a2 c2 a3 c3 a4 c4 Y Z hT (by rw [hcmp, beq_eq_false_iff_ne]; intro q; simp at q; exact hy q)).mono ?_
              rintro e w' ⟨rfl, hb⟩
              exact ⟨rfl, rb_later h.rb hb, Fr.of_below hb⟩
    · have e1 : bulkS L (bs t) = .fault wBulk := by rw [ht]; unfold bulkS; dsimp only; rw [if_pos hc]
      rw [e1]
      refine (bulk_first b L lv k wv wanted read used _ t w h.rb h.sl hd.ht c r ht hc).mono ?_
      rintro e w' ⟨rfl, rfl⟩
      exact ⟨rfl, h.rb, Fr.refl _ _⟩
end Go.Proofs.YtfkilbhhpipjbaaGreatDoor.BulkAny
