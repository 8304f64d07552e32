/- The document's own line and count. -/
import Derived.Test.YtfkilbhhpipjbaaGreatDoorRefPart
namespace Go.Proofs.YtfkilbhhpipjbaaGreatDoor.RefLine
open Go.RowKit
open Go.Lib (decDigits trimSuffix)
open Go.Proofs.YtfkilbhhpipjbaaGreatDoor.TextMath
open Go.Proofs.YtfkilbhhpipjbaaGreatDoor.ReqMath
open Go.Proofs.YtfkilbhhpipjbaaGreatDoor.Base
open Go.Proofs.YtfkilbhhpipjbaaGreatDoor.Small
open Go.Proofs.YtfkilbhhpipjbaaGreatDoor.Quoted
open Go.Proofs.YtfkilbhhpipjbaaGreatDoor.RefPart
set_option linter.unusedVariables false

theorem str_mid (s : ByteArray) (a b : Nat) (x y : Int) (hx : x = (a : Int)) (hy : y = (b : Int)) (hab : a ≤ b) (hb : b ≤ s.size) (w : World) : (Instr.slice 9 (.string s) (some (.int .i64 x)) (some (.int .i64 y)) none).run Tryz.prog w = .ok (.string (mk (((bs s).drop a).take (b - a)))) w := by
  subst hx hy
  have e : s.extract a b = mk (((bs s).drop a).take (b - a)) := of_bs (by rw [Bulk.ext_bs, bs_mk])
  rw [← e]
  exact run_slice_string w 9 s .i64 .i64 (a : Int) (b : Int) Tryz.underlying9 (by omega) (by omega) (by omega)
/- a line -/
structure LI (l : List UInt8) (a most k : Nat) : Prop where
  le : a ≤ k
  len : k ≤ l.length
  few : k ≤ a + most
  no : nl ((l.drop a).take (k - a)) = none
theorem LI.start {l : List UInt8} {a most : Nat} (h : a ≤ l.length) : LI l a most a := ⟨Nat.le_refl _, h, Nat.le_add_right _ _, by simp [nl]⟩
theorem take_more {l : List UInt8} {a k : Nat} {c : UInt8} (hak : a ≤ k) (hc : l[k]? = some c) : (l.drop a).take (k + 1 - a) = (l.drop a).take (k - a) ++ [c] := by
  have e : (l.drop a)[k - a]? = some c := by rw [List.getElem?_drop, show a + (k - a) = k by omega]; exact hc
  rw [show k + 1 - a = (k - a) + 1 by omega, List.take_add_one, e]
  rfl
theorem LI.none' {l : List UInt8} {a most k : Nat} {c : UInt8} (h : LI l a most k) (hc : l[k]? = some c) (h10 : c ≠ 10) : nl ((l.drop a).take (k + 1 - a)) = none := by
  rw [take_more h.le hc, nl_app, h.no]
  simp [nl, h10]
theorem LI.step {l : List UInt8} {a most k : Nat} {c : UInt8} (h : LI l a most k) (hc : l[k]? = some c) (h10 : c ≠ 10) (hm : k ≠ a + most) : LI l a most (k + 1) := by
  have h1 := h.le
  have h2 := h.few
  exact ⟨by omega, (List.getElem?_eq_some_iff.1 hc).1, by omega, h.none' hc h10⟩
theorem LI.more {l : List UInt8} {a most : Nat} (h : LI l a most l.length) : lineS most (l.drop a) = .more := by
  have h1 := h.no
  have h2 := h.few
  have hl : (l.drop a).length = l.length - a := List.length_drop
  rw [List.take_of_length_le (by omega)] at h1
  unfold lineS
  rw [h1]
  dsimp only
  rw [if_neg (by omega)]
theorem LI.long {l : List UInt8} {a most k : Nat} {c : UInt8} (h : LI l a most k) (hc : l[k]? = some c) (h10 : c ≠ 10) (hm : k = a + most) : lineS most (l.drop a) = .long := by
  have hk := (List.getElem?_eq_some_iff.1 hc).1
  have hl : (l.drop a).length = l.length - a := List.length_drop
  have e := nl_app ((l.drop a).take (k + 1 - a)) ((l.drop a).drop (k + 1 - a))
  rw [List.take_append_drop, h.none' hc h10] at e
  unfold lineS
  rw [e]
  have hle : ((l.drop a).take (k + 1 - a)).length = k + 1 - a := by rw [List.length_take]; omega
  cases nl ((l.drop a).drop (k + 1 - a)) with
  | none =>
    show (if most < (l.drop a).length then LR.long else LR.more) = LR.long
    rw [if_pos (by omega)]
  | some i =>
    show (if most < i + ((l.drop a).take (k + 1 - a)).length then LR.long else _) = LR.long
    rw [if_pos (by omega)]
theorem LI.got {l : List UInt8} {a most k : Nat} (h : LI l a most k) (hc : l[k]? = some 10) : lineS most (l.drop a) = .got (trimSuffix ((l.drop a).take (k - a)) [13]) (k - a + 1) := by
  have hk := (List.getElem?_eq_some_iff.1 hc).1
  have hl : (l.drop a).length = l.length - a := List.length_drop
  have h1 := h.le
  have h2 := h.few
  have e := nl_app ((l.drop a).take (k - a)) ((l.drop a).drop (k - a))
  have hd : (l.drop a).drop (k - a) = 10 :: l.drop (k + 1) := by
    rw [List.drop_drop, show a + (k - a) = k by omega]
    obtain ⟨q1, q2⟩ := List.getElem?_eq_some_iff.1 hc
    rw [List.drop_eq_getElem_cons q1, q2]
  rw [List.take_append_drop, h.no, hd] at e
  have hle : ((l.drop a).take (k - a)).length = k - a := by rw [List.length_take]; omega
  unfold lineS
  rw [e]
  show (if most < 0 + ((l.drop a).take (k - a)).length then LR.long else LR.got (trimSuffix ((l.drop a).take (0 + ((l.drop a).take (k - a)).length)) [13]) (0 + ((l.drop a).take (k - a)).length + 1)) = _
  rw [hle, Nat.zero_add, if_neg (by omega)]
theorem trim_yes {l : List UInt8} {a k : Nat} (hak : a < k) (hk : k ≤ l.length) (hc : l[k - 1]? = some 13) : trimSuffix ((l.drop a).take (k - a)) [13] = (l.drop a).take (k - 1 - a) := by
  have e := take_more (l := l) (a := a) (k := k - 1) (c := 13) (by omega) hc
  rw [show k - 1 + 1 - a = k - a by omega] at e
  rw [e, trim13]
theorem trim_no {l : List UInt8} {a k : Nat} {c : UInt8} (hak : a < k) (hk : k ≤ l.length) (hc : l[k - 1]? = some c) (h13 : c ≠ 13) : trimSuffix ((l.drop a).take (k - a)) [13] = (l.drop a).take (k - a) := by
  have e := take_more (l := l) (a := a) (k := k - 1) (c := c) (by omega) hc
  rw [show k - 1 + 1 - a = k - a by omega] at e
  rw [e]
  unfold trimSuffix
  rw [if_neg]
  intro h
  unfold Lib.hasSuffix at h
  simp at h
  exact h13 h.symm
theorem trim_nil {l : List UInt8} {a : Nat} : trimSuffix ((l.drop a).take (a - a)) [13] = [] := by
  rw [Nat.sub_self, List.take_zero]
  rfl
def lineE (a : Nat) : LR → Ending
  | .more => .returned (.tuple #[.string ⟨#[]⟩, .int .i64 0, .int .i64 0])
  | .long => .returned (.tuple #[.string ⟨#[]⟩, .int .i64 0, .int .i64 2])
  | .got x n => .returned (.tuple #[.string (mk x), .int .i64 ((a + n : Nat) : Int), .int .i64 1])
set_option maxHeartbeats 4000000 in
set_option maxRecDepth 100000 in
theorem rline_call (s : ByteArray) (a most : Nat) (ha : a ≤ s.size) (hz : s.size ≤ 67108864) (hm : most ≤ 1048576) (w : World) :
    Calls Tryz.prog 55 #[.string s, .int .i64 (a : Int), .int .i64 (most : Int)] w fun e w' => e = lineE a (lineS most ((bs s).drop a)) ∧ w' = w := by
  have hsl : (bs s).length = s.size := len_bs s
  go_enter Tryz.func55, Tryz.ntmps55
  go_wp2_with fail
  go_loopg [9] s.size (fun g si wx => ∃ k : Nat, a ≤ k ∧ k ≤ s.size ∧ s.size ≤ k + g ∧ si = .int .i64 k ∧ Hid (LI (bs s) a most k) ∧ wx = w)
  case atStart => exact ⟨a, by omega, ha, by omega, rfl, LI.start (by omega), rfl⟩
  case round =>
    obtain ⟨k, hak, hk, hg, rfl, HL, hwx⟩ := hrel
    subst hwx
    by_cases hlt : k < s.size
    · obtain ⟨g', rfl⟩ : ∃ g', gk = g' + 1 := ⟨gk - 1, by omega⟩
      obtain ⟨c, hc⟩ : ∃ c, (bs s)[k]? = some c := ⟨_, get_bs s k hlt⟩
      have hix := index_at s k c hc (k : Int) rfl
      have ew : IntKind.i64.wrap ((k : Int) + 1) = (k : Int) + 1 := IntWalk.i64_in _ (by omega)
      have ew1 : IntKind.i64.wrap ((k : Int) - 1) = (k : Int) - 1 := IntWalk.i64_in _ (by omega)
      have gi : (k : Int) < (s.size : Int) := by omega
      by_cases h10 : c = 10
      · subst h10
        have HG := hid_of (HL.out.got hc)
        by_cases hlt2 : a < k
        · obtain ⟨d, hd⟩ : ∃ d, (bs s)[k - 1]? = some d := ⟨_, get_bs s (k - 1) (by omega)⟩
          have hix2 := index_at s (k - 1) d hd ((k : Int) - 1) (by omega)
          have ga : (a : Int) < (k : Int) := by omega
          by_cases h13 : d = 13
          · subst h13
            have hsl2 := str_mid s a (k - 1) (a : Int) ((k : Int) - 1) rfl (by omega) (by omega) (by omega)
            have HT := hid_of (trim_yes hlt2 (by omega) hd)
            clear hd hc
            go_wp2_with fail
            go_ret3
            rw [HG.out, HT.out]
            exact ⟨by show _ = Ending.returned (.tuple #[_, .int .i64 ((a + (k - a + 1) : Nat) : Int), _]); rw [show ((a + (k - a + 1) : Nat) : Int) = (k : Int) + 1 from by omega]; rfl, rfl⟩
          · have e13 : ((d.toNat : Int) == 13) = false := ne_int (d := 13) h13
            have hsl2 := str_mid s a k (a : Int) (k : Int) rfl rfl hak (by omega)
            have HT := hid_of (trim_no hlt2 (by omega) hd h13)
            clear hd hc h13
            go_wp2_with fail
            go_ret3
            rw [HG.out, HT.out]
            exact ⟨by show _ = Ending.returned (.tuple #[_, .int .i64 ((a + (k - a + 1) : Nat) : Int), _]); rw [show ((a + (k - a + 1) : Nat) : Int) = (k : Int) + 1 from by omega]; rfl, rfl⟩
        · obtain rfl : a = k := by omega
          have ga : ¬ (a : Int) < (a : Int) := by omega
          have hsl2 := str_mid s a a (a : Int) (a : Int) rfl rfl (Nat.le_refl _) (by omega)
          have HT := hid_of (trim_nil (l := bs s) (a := a))
          clear hc
          go_wp2_with fail
          go_ret3
          rw [HG.out, HT.out]
          exact ⟨by show _ = Ending.returned (.tuple #[_, .int .i64 ((a + (a - a + 1) : Nat) : Int), _]); rw [show ((a + (a - a + 1) : Nat) : Int) = (a : Int) + 1 from by omega]; rfl, rfl⟩
      · have e10 : ((c.toNat : Int) == 10) = false := ne_int (d := 10) h10
        have ew2 : IntKind.i64.wrap ((k : Int) - (a : Int)) = (k : Int) - (a : Int) := IntWalk.i64_in _ (by omega)
        by_cases hm2 : k = a + most
        · have eM : ((k : Int) - (a : Int) == (most : Int)) = true := by rw [beq_iff_eq]; omega
          have HE := hid_of (HL.out.long hc h10 hm2)
          clear hc h10 hm2
          go_wp2_with fail
          go_ret3
          rw [HE.out]
          exact ⟨rfl, rfl⟩
        · have eM : ((k : Int) - (a : Int) == (most : Int)) = false := by rw [beq_eq_false_iff_ne]; omega
          have HN := hid_of (HL.out.step hc h10 hm2)
          clear hc h10 hm2
          go_wp2_with fail
          go_roundg g'
          case measure => omega
          case rel => exact ⟨k + 1, by omega, by omega, by omega, by rw [show ((k + 1 : Nat) : Int) = (k : Int) + 1 from by omega], HN, rfl⟩
    · obtain rfl : k = s.size := by omega
      have gi : ¬ (s.size : Int) < (s.size : Int) := by omega
      have HL2 := HL.out
      rw [← hsl] at HL2
      have HE := hid_of HL2.more
      clear HL2
      go_wp2_with fail
      go_ret3
      rw [HE.out]
      exact ⟨rfl, rfl⟩
end Go.Proofs.YtfkilbhhpipjbaaGreatDoor.RefLine
