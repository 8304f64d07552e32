/- The contracts of the document's own Plain and Quote, for texts of at most a thousand million bytes. -/
import Derived.Test.YtaglcpjjekaohaaQuote
import Derived.Laws.IdiomStrings
import Derived.Laws.BytesArg
namespace Go.Proofs.Ytaglcpjjekaohaa.RefQuote
open Go.RowKit
open Go.Proofs.Ytaglcpjjekaohaa.Math
open Go.Proofs.Ytaglcpjjekaohaa.Class
open Go.Proofs.Ytaglcpjjekaohaa.Builder
open Go.Proofs.Ytaglcpjjekaohaa.QuoteMath
open Go.Proofs.Ytaglcpjjekaohaa.Quote
set_option linter.unusedVariables false

/-- The row v holds the bytes l. -/
def Holds1 (w wx : World) (v : Value) (l : List UInt8) : Prop := wx.ownsRow w.heap.size 5 1 v l.length (Lib.byteCells l) ∧ Below w.heap.size w wx
theorem holds_start (w : World) : Holds1 w w (.slice none 0 0) [] := ⟨World.ownsRow_nil _ _ _ _, Below.refl _ _⟩
theorem holds_put {w wr w1 : World} {l : List UInt8} {v v' : Value} {c : Value} {b : UInt8} (h : Holds1 w wr v l)
    (hown' : w1.ownsRow w.heap.size 5 1 v' (l.length + 1) (Lib.byteCells l ++ [Value.int .u8 b.toNat])) (hgrow : (wr.alloc (.cells #[c] 5)).grownBy w1 v.ownBlock) : Holds1 w w1 v' (l ++ [b]) := by
  have hs := h.2.size
  refine ⟨?_, (h.2.alloc hs _).grown hgrow (by simp; omega) (fun j hj => (h.1.lt j hj).1)⟩
  rw [List.length_append, ← cells_put]; exact hown'
theorem conv_own {w wx : World} {v : Value} {l : List UInt8} (h : Holds1 w wx v l) : (convert 29 9 v).run Try.prog wx = .ok (.string ⟨l.toArray⟩) wx := by
  rcases h.1.2 with ⟨e, hn⟩ | ⟨g, cap, cur, e, _⟩
  · rw [List.length_eq_zero_iff] at hn
    subst e; subst hn
    exact run_convert_bytes_nil wx 29 5 Try.underlying29 Try.underlying5 0 0 9 Try.underlying9
  · have h1 := h.1
    subst e
    exact run_convert_bytes_back (P := Try.prog) wx 29 9 5 ⟨g, 0, none⟩ cap l Try.underlying29 Try.underlying5 Try.underlying9 (fun j hj => by
      have e : (⟨g, 0, none⟩ : Addr).add j = ⟨g, j, none⟩ := by
        by_cases h0 : j = 0
        · subst h0; rfl
        · simp [Addr.add, h0]
      rw [e]
      have hc := h1.cellAt j (by omega)
      rw [Lib.byteCells, List.getElem?_map, List.getElem?_eq_getElem hj] at hc
      simpa using hc)
theorem open_cases (c : Nat) : (isO c = true ∧ ((c : Int) == 42) = true) ∨ (isO c = true ∧ ((c : Int) == 42) = false ∧ ((c : Int) == 63) = true) ∨ (isO c = true ∧ ((c : Int) == 42) = false ∧ ((c : Int) == 63) = false ∧ ((c : Int) == 91) = true) ∨ (isO c = false ∧ ((c : Int) == 42) = false ∧ ((c : Int) == 63) = false ∧ ((c : Int) == 91) = false) := by
  unfold isO
  rw [show (42 : Int) = ((42 : Nat) : Int) from rfl, show (63 : Int) = ((63 : Nat) : Int) from rfl, show (91 : Int) = ((91 : Nat) : Int) from rfl, beq_lit, beq_lit, beq_lit]
  cases (c == 42) <;> cases (c == 63) <;> cases (c == 91) <;> simp

set_option maxRecDepth 100000 in
set_option maxHeartbeats 2000000 in
theorem rplain_any (p : ByteArray) (w : World) (hp : p.size ≤ 1000000000) :
    Calls Try.prog 15 #[.string p] w fun e w' => e = .returned (.tuple #[.string (pS (bs p)), .bool (pB (bs p))]) ∧ Below w.heap.size w w' := by
  obtain ⟨i0, hi0, hz0, hz1, hz2⟩ := info_parts info5
  go_enter Try.func15, Try.ntmps15
  go_wp2
  go_loopg [4, 5] p.size (fun g v s5 wx => ∃ (k : Nat) (acc : List UInt8), k ≤ p.size ∧ p.size ≤ k + g ∧ s5 = .int .i64 k ∧ Hid (ReadTo p acc k) ∧ Hid (Holds1 w wx v acc))
  case atStart => exact ⟨0, [], by omega, by omega, rfl, read_start p, holds_start w⟩
  case round =>
    obtain ⟨k, acc, hk, hg, rfl, HR, HH⟩ := hrel
    have hsz := HH.out.2.size
    have hacc := HR.out.2
    by_cases hlt : k < p.size
    · rcases open_cases p[k].toNat with ⟨ho, t1⟩ | ⟨ho, t1, t2⟩ | ⟨ho, t1, t2, t3⟩ | ⟨ho, t1, t2, t3⟩
      case inr.inr.inr =>
        obtain ⟨g', rfl⟩ : ∃ g', gk = g' + 1 := ⟨gk - 1, by omega⟩
        by_cases e92 : p[k].toNat = 92 ∧ k + 1 < p.size
        · obtain ⟨e92, hk1⟩ := e92
          have t4 : ((p[k].toNat : Int) == 92) = true := by rw [e92]; rfl
          have HN := hid_of (read_esc HR.out hk1 e92)
          clear e92 ho HR
          go_wp2_with (at_builtin; refine wpList_append_own _ rfl _ _ 29 rfl w.heap.size 5 i0 (.int .u8 0) 1 1 Try.underlying29 hi0 hz0 hz1 hz2 rfl (by decide) _ _ _ rfl (HH.out.1.alloc _) ⟨wr.heap.size, 0, none⟩ 1 1 [.int .u8 p[k + 1].toNat] rfl rfl ?c1 ?c2 ?c3 ?c4 ?c5 ?_)
          case c1 =>
            intro j z hj
            match j, hj with
            | 0, hj => simp at hj; subst hj; simp [Addr.add]
          case c2 => intro z hz; simp at hz; subst hz; rfl
          case c3 => unfold maxLen; omega
          case c4 => omega
          case c5 => simp; omega
          intro v' w1 hown' hgrow _
          have R := hid_of (holds_put HH.out hown' hgrow)
          clear hown' hgrow HH
          go_wp2
          go_roundg g'
          case measure => omega
          case rel => exact ⟨k + 2, _, by omega, by omega, rfl, HN, R⟩
        · have h92 : ((p[k].toNat : Int) == 92) = false ∨ (((p[k].toNat : Int) == 92) = true ∧ ¬ k + 1 < p.size) := by
            by_cases e : p[k].toNat = 92
            · exact Or.inr ⟨by rw [e]; rfl, by omega⟩
            · exact Or.inl (by simp; omega)
          have HN := hid_of (read_one HR.out hlt ho e92)
          clear e92 ho HR
          rcases h92 with h92 | ⟨h92, hk1⟩
          all_goals
            go_wp2_with (at_builtin; refine wpList_append_own _ rfl _ _ 29 rfl w.heap.size 5 i0 (.int .u8 0) 1 1 Try.underlying29 hi0 hz0 hz1 hz2 rfl (by decide) _ _ _ rfl (HH.out.1.alloc _) ⟨wr.heap.size, 0, none⟩ 1 1 [.int .u8 p[k].toNat] rfl rfl ?c1 ?c2 ?c3 ?c4 ?c5 ?_)
            case c1 =>
              intro j z hj
              match j, hj with
              | 0, hj => simp at hj; subst hj; simp [Addr.add]
            case c2 => intro z hz; simp at hz; subst hz; rfl
            case c3 => unfold maxLen; omega
            case c4 => omega
            case c5 => simp; omega
            intro v' w1 hown' hgrow _
            have R := hid_of (holds_put HH.out hown' hgrow)
            clear hown' hgrow HH
            go_wp2
            go_roundg g'
            case measure => omega
            case rel => exact ⟨k + 1, _, by omega, by omega, rfl, HN, R⟩
      all_goals
        have HN := hid_of (read_open HR.out hlt ho)
        clear ho HR
        go_wp2
        go_ret2
        exact ⟨ret_sb (by unfold pS; rw [HN.out]; rfl) (by unfold pB; rw [HN.out]; rfl), HH.out.2⟩
    · have HN := hid_of (read_end HR.out (by omega))
      have hcv := conv_own HH.out
      go_wp2
      go_ret2
      exact ⟨ret_sb (by unfold pS; rw [HN.out]; rfl) (by unfold pB; rw [HN.out]; rfl), HH.out.2⟩

set_option maxRecDepth 100000 in
set_option maxHeartbeats 2000000 in
theorem rquote_any (s : ByteArray) (w : World) (hs : s.size ≤ 1000000000) :
    Calls Try.prog 17 #[.string s] w fun e w' => e = .returned (.string ⟨(quote (bs s)).toArray⟩) ∧ Below w.heap.size w w' := by
  obtain ⟨i0, hi0, hz0, hz1, hz2⟩ := info_parts info5
  go_enter Try.func17, Try.ntmps17
  go_wp2
  go_loopg [3, 4] s.size (fun g v s4 wx => ∃ (k : Nat) (acc : List UInt8), k ≤ s.size ∧ s.size ≤ k + g ∧ s4 = .int .i64 k ∧ acc.length ≤ 2 * k ∧ Hid (acc = quote ((bs s).take k)) ∧ Hid (Holds1 w wx v acc))
  case atStart => exact ⟨0, [], by omega, by omega, rfl, by simp, rfl, holds_start w⟩
  case round =>
    obtain ⟨k, acc, hk, hg, rfl, hacc, HA, HH⟩ := hrel
    have hsz := HH.out.2.size
    by_cases hlt : k < s.size
    · obtain ⟨g', rfl⟩ : ∃ g', gk = g' + 1 := ⟨gk - 1, by omega⟩
      have HS := hid_of (take_snoc s k hlt)
      cases hq : isQ s[k].toNat with
      | true =>
        have H1 : Hid (acc ++ [92] ++ [s[k]] = quote ((bs s).take (k + 1))) := by show _ = _; rw [HS.out, quote_snoc, q1, if_pos hq, HA.out]; simp
        have hcase : (((s[k].toNat : Int) == 42) = true) ∨ (((s[k].toNat : Int) == 42) = false ∧ ((s[k].toNat : Int) == 63) = true) ∨ (((s[k].toNat : Int) == 42) = false ∧ ((s[k].toNat : Int) == 63) = false ∧ ((s[k].toNat : Int) == 91) = true) ∨ (((s[k].toNat : Int) == 42) = false ∧ ((s[k].toNat : Int) == 63) = false ∧ ((s[k].toNat : Int) == 91) = false ∧ ((s[k].toNat : Int) == 92) = true) := by
          unfold isQ at hq
          rcases open_cases s[k].toNat with ⟨ho, t1⟩ | ⟨ho, t1, t2⟩ | ⟨ho, t1, t2, t3⟩ | ⟨ho, t1, t2, t3⟩
          · exact Or.inl t1
          · exact Or.inr (Or.inl ⟨t1, t2⟩)
          · exact Or.inr (Or.inr (Or.inl ⟨t1, t2, t3⟩))
          · rw [ho, Bool.false_or, beq_iff_eq] at hq
            exact Or.inr (Or.inr (Or.inr ⟨t1, t2, t3, by rw [hq]; rfl⟩))
        clear hq HS HA
        rcases hcase with t1 | ⟨t1, t2⟩ | ⟨t1, t2, t3⟩ | ⟨t1, t2, t3, t4⟩
        all_goals
          go_wp2_with (at_builtin; refine wpList_append_own _ rfl _ _ 29 rfl w.heap.size 5 i0 (.int .u8 0) 1 1 Try.underlying29 hi0 hz0 hz1 hz2 rfl (by decide) _ _ _ rfl (HH.out.1.alloc _) ⟨wr.heap.size, 0, none⟩ 1 1 [.int .u8 92] rfl rfl ?c1 ?c2 ?c3 ?c4 ?c5 ?_)
          case c1 =>
            intro j z hj
            match j, hj with
            | 0, hj => simp at hj; subst hj; simp [Addr.add]
          case c2 => intro z hz; simp at hz; subst hz; rfl
          case c3 => unfold maxLen; omega
          case c4 => omega
          case c5 => simp; omega
          intro v' w1 hown' hgrow _
          have R := hid_of (holds_put (b := 92) HH.out hown' hgrow)
          have hsz1 := R.out.2.size
          clear hown' hgrow HH hsz
          go_wp2_with (at_builtin; refine wpList_append_own _ rfl _ _ 29 rfl w.heap.size 5 i0 (.int .u8 0) 1 1 Try.underlying29 hi0 hz0 hz1 hz2 rfl (by decide) _ _ _ rfl (R.out.1.alloc _) ⟨w1.heap.size, 0, none⟩ 1 1 [.int .u8 s[k].toNat] rfl rfl ?c1 ?c2 ?c3 ?c4 ?c5 ?_)
          case c1 =>
            intro j z hj
            match j, hj with
            | 0, hj => simp at hj; subst hj; simp [Addr.add]
          case c2 => intro z hz; simp at hz; subst hz; rfl
          case c3 => unfold maxLen; simp; omega
          case c4 => simp; omega
          case c5 => simp; omega
          intro v2 w2 hown2 hgrow2 _
          have R2 := hid_of (holds_put (v' := v2) (b := s[k]) R.out (by rw [List.length_append]; exact hown2) hgrow2)
          clear hown2 hgrow2 R
          go_wp2
          go_roundg g'
          case measure => omega
          case rel => exact ⟨k + 1, _, by omega, by omega, rfl, by simp; omega, H1, R2⟩
      | false =>
        have H1 : Hid (acc ++ [s[k]] = quote ((bs s).take (k + 1))) := by show _ = _; rw [HS.out, quote_snoc, q1, if_neg (by rw [hq]; decide), HA.out]
        have hcase : ((s[k].toNat : Int) == 42) = false ∧ ((s[k].toNat : Int) == 63) = false ∧ ((s[k].toNat : Int) == 91) = false ∧ ((s[k].toNat : Int) == 92) = false := by
          unfold isQ at hq
          have hq2 := (Bool.or_eq_false_iff.1 hq).2
          have hq1 := (Bool.or_eq_false_iff.1 hq).1
          rcases open_cases s[k].toNat with ⟨ho, t1⟩ | ⟨ho, t1, t2⟩ | ⟨ho, t1, t2, t3⟩ | ⟨ho, t1, t2, t3⟩
          · rw [ho] at hq1; cases hq1
          · rw [ho] at hq1; cases hq1
          · rw [ho] at hq1; cases hq1
          · exact ⟨t1, t2, t3, by simp at hq2 ⊢; omega⟩
        clear hq HS HA
        obtain ⟨t1, t2, t3, t4⟩ := hcase
        go_wp2_with (at_builtin; refine wpList_append_own _ rfl _ _ 29 rfl w.heap.size 5 i0 (.int .u8 0) 1 1 Try.underlying29 hi0 hz0 hz1 hz2 rfl (by decide) _ _ _ rfl (HH.out.1.alloc _) ⟨wr.heap.size, 0, none⟩ 1 1 [.int .u8 s[k].toNat] rfl rfl ?c1 ?c2 ?c3 ?c4 ?c5 ?_)
        case c1 =>
          intro j z hj
          match j, hj with
          | 0, hj => simp at hj; subst hj; simp [Addr.add]
        case c2 => intro z hz; simp at hz; subst hz; rfl
        case c3 => unfold maxLen; omega
        case c4 => omega
        case c5 => simp; omega
        intro v' w1 hown' hgrow _
        have R := hid_of (holds_put HH.out hown' hgrow)
        clear hown' hgrow HH
        go_wp2
        go_roundg g'
        case measure => omega
        case rel => exact ⟨k + 1, _, by omega, by omega, rfl, by simp; omega, H1, R⟩
    · have HT := hid_of (take_all s k (by omega))
      have hcv := conv_own HH.out
      go_wp2
      go_ret
      exact ⟨ret_s (by rw [HA.out, HT.out]), HH.out.2⟩
end Go.Proofs.Ytaglcpjjekaohaa.RefQuote
