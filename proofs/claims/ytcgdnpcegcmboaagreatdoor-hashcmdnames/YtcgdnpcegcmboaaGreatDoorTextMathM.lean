/- Numbers and their one text, as plain functions on lists of bytes: what strconv.Atoi and Itoa come to, what the document's own Parse and Print come to, and that they are one: no program is met here. What is read of a text is one alone. The contracts of num.Print and of the document's own Print: a number's one text; old memory stands. From what the rows list of the library's tables and errors to what the contracts ask. The contract of num.Parse: the number whose one text it is, or none; old memory stands. -/
import Derived.Lib.ItoaNum
import Derived.Lib.AtoiAll
import Derived.Test.YtcgdnpcegcmboaaGreatDoorRows
import Derived.Test.YtcgdnpcegcmboaaGreatDoorShelfM
import Derived.Lib.SlBytesRow
import Derived.WalkKit
import Derived.WalkSmall
import Derived.Below
import Derived.ProofKit
import Derived.LaidMore
import Derived.Stop.Joined
import Derived.Stop.LaidErr
import Derived.Lib.LaidTab
import Derived.Lib.AtoiAllCases
import Derived.Lib.ConvBytes
section
namespace Go.Proofs.YtcgdnpcegcmboaaGreatDoor.TextMath
open Go.Lib (decDigits itoa atoiAll parseUint10 parseMag NumEnd)

def InI (n : Int) : Prop := -9223372036854775808 ≤ n ∧ n ≤ 9223372036854775807
def digB (c : UInt8) : Bool := decide (48 ≤ c.toNat ∧ c.toNat ≤ 57)
theorem digB_iff (c : UInt8) : digB c = true ↔ 48 ≤ c.toNat ∧ c.toNat ≤ 57 := by simp [digB]

theorem dec_small {u : Nat} (h : u < 10) : decDigits u = [UInt8.ofNat (48 + u)] := by rw [decDigits, dif_pos h]
theorem dec_big {u : Nat} (h : ¬ u < 10) : decDigits u = decDigits (u / 10) ++ [UInt8.ofNat (48 + u % 10)] := by rw [decDigits, dif_neg h]
theorem dig_toNat {d : Nat} (h : d < 10) : (UInt8.ofNat (48 + d)).toNat = 48 + d := by rw [UInt8.toNat_ofNat']; omega
theorem digB_of {d : Nat} (h : d < 10) : digB (UInt8.ofNat (48 + d)) = true := by rw [digB_iff, dig_toNat h]; omega
theorem dec_ne (u : Nat) : decDigits u ≠ [] := by
  by_cases h : u < 10
  · rw [dec_small h]; simp
  · rw [dec_big h]; simp
theorem dec_all (u : Nat) : (decDigits u).all digB = true := by
  induction u using Nat.strongRecOn with
  | _ u ih =>
    by_cases h : u < 10
    · rw [dec_small h, List.all_cons, digB_of h]; rfl
    · rw [dec_big h, List.all_append, ih (u / 10) (by omega), List.all_cons, digB_of (show u % 10 < 10 from by omega)]; rfl
/-- the number that digits spell, on from a -/
def valOn (a : Nat) (l : List UInt8) : Nat := l.foldl (fun x c => 10 * x + (c.toNat - 48)) a
theorem valOn_snoc (a : Nat) (l : List UInt8) (c : UInt8) : valOn a (l ++ [c]) = 10 * valOn a l + (c.toNat - 48) := by simp [valOn]
theorem val_dec (u : Nat) : valOn 0 (decDigits u) = u := by
  induction u using Nat.strongRecOn with
  | _ u ih =>
    by_cases h : u < 10
    · have e := valOn_snoc 0 [] (UInt8.ofNat (48 + u))
      rw [List.nil_append, dig_toNat h] at e
      rw [dec_small h, e]
      have : valOn 0 [] = 0 := rfl
      omega
    · rw [dec_big h, valOn_snoc, ih (u / 10) (by omega), dig_toNat (show u % 10 < 10 from by omega)]; omega
theorem val_lt (l : List UInt8) (h : l.all digB = true) : ∀ a, valOn a l < (a + 1) * 10 ^ l.length := by
  induction l with
  | nil => intro a; simp [valOn]
  | cons c t ih =>
    intro a
    rw [List.all_cons, Bool.and_eq_true] at h
    have hc := (digB_iff c).1 h.1
    have := ih h.2 (10 * a + (c.toNat - 48))
    have e : valOn a (c :: t) = valOn (10 * a + (c.toNat - 48)) t := rfl
    rw [e, List.length_cons, Nat.pow_succ]
    refine Nat.lt_of_lt_of_le this ?_
    rw [Nat.mul_comm (10 ^ t.length) 10, ← Nat.mul_assoc]
    exact Nat.mul_le_mul_right _ (by omega)
theorem val_ge (l : List UInt8) : ∀ a, a * 10 ^ l.length ≤ valOn a l := by
  induction l with
  | nil => intro a; simp [valOn]
  | cons c t ih =>
    intro a
    have := ih (10 * a + (c.toNat - 48))
    have e : valOn a (c :: t) = valOn (10 * a + (c.toNat - 48)) t := rfl
    rw [e, List.length_cons, Nat.pow_succ]
    refine Nat.le_trans ?_ this
    rw [Nat.mul_comm (10 ^ t.length) 10, ← Nat.mul_assoc]
    exact Nat.mul_le_mul_right _ (by omega)
/-- no nought ahead, unless it is the one digit -/
def Canon (l : List UInt8) : Prop := l ≠ [] ∧ l.all digB = true ∧ (l.headD 0 = 48 → l.length = 1)
theorem canon_dec (u : Nat) : Canon (decDigits u) := by
  refine ⟨dec_ne u, dec_all u, ?_⟩
  induction u using Nat.strongRecOn with
  | _ u ih =>
    by_cases h : u < 10
    · rw [dec_small h]; simp
    · rw [dec_big h]
      intro hh
      have hne := dec_ne (u / 10)
      have e : (decDigits (u / 10) ++ [UInt8.ofNat (48 + u % 10)]).headD 0 = (decDigits (u / 10)).headD 0 := by
        cases q : decDigits (u / 10) with
        | nil => exact absurd q hne
        | cons a b => rfl
      rw [e] at hh
      have h1 := ih (u / 10) (by omega) hh
      exfalso
      by_cases h2 : u / 10 < 10
      · rw [dec_small h2] at hh
        have q := congrArg UInt8.toNat hh
        simp only [List.headD_cons] at q
        rw [dig_toNat h2] at q
        have q2 : (48 : UInt8).toNat = 48 := rfl
        omega
      · rw [dec_big h2] at h1
        have := List.length_pos_iff.2 (dec_ne (u / 10 / 10))
        rw [List.length_append] at h1
        simp only [List.length_cons, List.length_nil] at h1
        omega
theorem dec_val (n : Nat) : ∀ l : List UInt8, l.length = n → Canon l → decDigits (valOn 0 l) = l := by
  induction n with
  | zero => intro l hl hc; exact absurd (List.length_eq_zero_iff.1 hl) hc.1
  | succ n ih =>
    intro l hl hc
    obtain ⟨t, c, rfl⟩ : ∃ t c, l = t ++ [c] := ⟨l.dropLast, l.getLast hc.1, (List.dropLast_concat_getLast hc.1).symm⟩
    have ht : t.length = n := by simpa using hl
    have hall := hc.2.1
    rw [List.all_append, Bool.and_eq_true] at hall
    have hcd : digB c = true := by simpa using hall.2
    have hcr := (digB_iff c).1 hcd
    have back : UInt8.ofNat (48 + (c.toNat - 48)) = c := by
      rw [show 48 + (c.toNat - 48) = c.toNat from by omega]; simp
    rw [valOn_snoc]
    cases t with
    | nil =>
      have : valOn 0 [] = 0 := rfl
      rw [this, dec_small (by omega), show 10 * 0 + (c.toNat - 48) = c.toNat - 48 from by omega, back]; rfl
    | cons a r =>
      have ha : a ≠ 48 := by
        intro e
        have := hc.2.2 (by simpa using e)
        simp at this
      have had : digB a = true := by
        have := hall.1; rw [List.all_cons, Bool.and_eq_true] at this; exact this.1
      have har := (digB_iff a).1 had
      have ha48 : a.toNat ≠ 48 := fun e => ha (UInt8.toNat_inj.1 (by rw [e]; rfl))
      have hpos : 1 ≤ valOn 0 (a :: r) := by
        have := val_ge r (10 * 0 + (a.toNat - 48))
        have e : valOn 0 (a :: r) = valOn (10 * 0 + (a.toNat - 48)) r := rfl
        rw [e]
        have hp : 1 ≤ 10 ^ r.length := Nat.one_le_pow _ _ (by omega)
        have : 1 * 1 ≤ (10 * 0 + (a.toNat - 48)) * 10 ^ r.length := Nat.mul_le_mul (by omega) hp
        omega
      have hcan : Canon (a :: r) := ⟨by simp, hall.1, fun e => absurd (by simpa using e) ha⟩
      have := ih (a :: r) ht hcan
      rw [dec_big (by omega), show (10 * valOn 0 (a :: r) + (c.toNat - 48)) / 10 = valOn 0 (a :: r) from by omega,
        show (10 * valOn 0 (a :: r) + (c.toNat - 48)) % 10 = c.toNat - 48 from by omega, back, this]

/-! ### strconv -/
theorem parse_append (l : List UInt8) (c : UInt8) (a : Nat) : ∀ acc, parseUint10 acc l = .ok a → parseUint10 acc (l ++ [c]) = parseUint10 a [c] := by
  induction l with
  | nil => intro acc h; injection h with h; subst h; rfl
  | cons d t ih =>
    intro acc h
    rw [List.cons_append, parseUint10]
    rw [parseUint10] at h
    by_cases h1 : 48 ≤ d.toNat ∧ d.toNat ≤ 57
    · rw [if_pos h1] at h ⊢
      by_cases h2 : 1844674407370955162 ≤ acc
      · rw [if_pos h2] at h; cases h
      · rw [if_neg h2] at h ⊢
        by_cases h3 : 18446744073709551616 ≤ acc * 10 + (d.toNat - 48)
        · rw [if_pos h3] at h; cases h
        · rw [if_neg h3] at h ⊢
          exact ih _ h
    · rw [if_neg h1] at h; cases h
theorem parse_dec (u : Nat) (h : u < 18446744073709551616) : parseUint10 0 (decDigits u) = .ok u := by
  induction u using Nat.strongRecOn with
  | _ u ih =>
    by_cases h1 : u < 10
    · rw [dec_small h1]
      simp only [parseUint10, dig_toNat h1]
      rw [if_pos (by omega), if_neg (by omega), if_neg (by omega)]
      simp
    · rw [dec_big h1, parse_append _ _ _ _ (ih (u / 10) (by omega) (by omega))]
      simp only [parseUint10, dig_toNat (show u % 10 < 10 from by omega)]
      rw [if_pos (by omega), if_neg (by omega), if_neg (by omega)]
      congr 1
      omega
theorem head_dec (u : Nat) : ∃ c t, decDigits u = c :: t ∧ 48 ≤ c.toNat ∧ c.toNat ≤ 57 := by
  cases e : decDigits u with
  | nil => exact absurd e (dec_ne u)
  | cons c t =>
    have := dec_all u
    rw [e, List.all_cons, Bool.and_eq_true] at this
    exact ⟨c, t, rfl, (digB_iff c).1 this.1⟩
theorem atoi_cons (c : UInt8) (t : List UInt8) (u : Nat) (hp : parseMag (if c.toNat = 43 ∨ c.toNat = 45 then t else c :: t) = .ok u) :
    atoiAll (c :: t) = if ¬ c.toNat = 45 ∧ 9223372036854775808 ≤ u then .range else if c.toNat = 45 ∧ 9223372036854775808 < u then .range else .ok (if c.toNat = 45 then -(u : Int) else u) := by
  simp only [atoiAll]
  rw [hp]
theorem atoi_neg (t : List UInt8) (u : Nat) (hp : parseMag t = .ok u) (h : u ≤ 9223372036854775808) : atoiAll (45 :: t) = .ok (-(u : Int)) := by
  have e45 : (45 : UInt8).toNat = 45 := rfl
  rw [atoi_cons 45 t u (by rw [if_pos (Or.inr e45)]; exact hp)]
  rw [if_neg (by omega), if_neg (by omega), if_pos e45]
theorem atoi_pos (c : UInt8) (t : List UInt8) (u : Nat) (hc1 : 48 ≤ c.toNat) (hp : parseMag (c :: t) = .ok u) (h : u ≤ 9223372036854775807) : atoiAll (c :: t) = .ok (u : Int) := by
  rw [atoi_cons c t u (by rw [if_neg (by omega)]; exact hp)]
  rw [if_neg (by omega), if_neg (by omega), if_neg (by omega)]
theorem mag_dec (u : Nat) (h : u < 18446744073709551616) : parseMag (decDigits u) = .ok u := by
  unfold parseMag
  rw [if_neg (dec_ne _), parse_dec _ h]
theorem atoi_itoa (n : Int) (h : InI n) : atoiAll (itoa n) = .ok n := by
  obtain ⟨h1, h2⟩ := h
  unfold itoa
  by_cases hn : n < 0
  · rw [if_pos hn, atoi_neg _ n.natAbs (mag_dec _ (by omega)) (by omega)]
    congr 1; omega
  · rw [if_neg hn]
    obtain ⟨c, t, e, hc1, hc2⟩ := head_dec n.toNat
    have hp := mag_dec n.toNat (by omega)
    rw [e] at hp ⊢
    rw [atoi_pos c t n.toNat hc1 hp (by omega)]
    congr 1; omega

/-! ### the document's Parse -/
/-- the number whose one text l is -/
def textB (n : Int) (l : List UInt8) : Bool := decide (-9223372036854775808 ≤ n ∧ n ≤ 9223372036854775807) && itoa n == l
theorem text_iff (n : Int) (l : List UInt8) : textB n l = true ↔ InI n ∧ itoa n = l := by simp [textB, InI]
/-- digits behind no sign -/
theorem text_pos {t : List UInt8} (hc : Canon t) (h : valOn 0 t ≤ 9223372036854775807) : textB (valOn 0 t : Nat) t = true := by
  rw [text_iff]
  refine ⟨⟨by omega, by omega⟩, ?_⟩
  unfold itoa
  rw [if_neg (by omega), Int.toNat_natCast]
  exact dec_val _ t rfl hc
/-- digits behind a sign -/
theorem text_neg {t : List UInt8} (hc : Canon t) (h0 : t.headD 0 ≠ 48) (h : valOn 0 t ≤ 9223372036854775808) : textB (-((valOn 0 t : Nat) : Int)) (45 :: t) = true := by
  have hd := dec_val _ t rfl hc
  have hpos : valOn 0 t ≠ 0 := by
    intro e
    rw [e, dec_small (by omega)] at hd
    rw [← hd] at h0
    exact h0 rfl
  rw [text_iff]
  refine ⟨⟨by omega, by omega⟩, ?_⟩
  unfold itoa
  rw [if_pos (by omega)]
  congr 1
  rw [show (-((valOn 0 t : Nat) : Int)).natAbs = valOn 0 t from by omega]
  exact hd
/-- what a text of a number looks like -/
theorem text_shape {n : Int} {l : List UInt8} (h : textB n l = true) :
    (∃ t, l = 45 :: t ∧ Canon t ∧ t.headD 0 ≠ 48 ∧ n = -((valOn 0 t : Nat) : Int) ∧ valOn 0 t ≤ 9223372036854775808) ∨ (Canon l ∧ n = (valOn 0 l : Nat) ∧ valOn 0 l ≤ 9223372036854775807) := by
  rw [text_iff] at h
  obtain ⟨⟨h1, h2⟩, h3⟩ := h
  unfold itoa at h3
  by_cases hn : n < 0
  · rw [if_pos hn] at h3
    refine .inl ⟨decDigits n.natAbs, h3.symm, canon_dec _, ?_, ?_, ?_⟩
    · intro e
      have hl := (canon_dec n.natAbs).2.2 e
      have hv := val_dec n.natAbs
      cases q : decDigits n.natAbs with
      | nil => exact absurd q (dec_ne _)
      | cons c t =>
        rw [q] at e hl hv
        have : t = [] := by simpa using hl
        subst this
        simp only [List.headD_cons] at e
        subst e
        have : valOn 0 [48] = 0 := rfl
        omega
    · rw [val_dec]; omega
    · rw [val_dec]; omega
  · rw [if_neg hn] at h3
    rw [← h3]
    exact .inr ⟨canon_dec _, by rw [val_dec]; omega, by rw [val_dec]; omega⟩
theorem canon_len {t : List UInt8} (hc : Canon t) (h : valOn 0 t ≤ 9223372036854775808) : t.length ≤ 19 := by
  have hd := dec_val _ t rfl hc
  have hl := Lib.decDigits_length (valOn 0 t)
  rw [hd] at hl
  rw [hl]
  by_cases h1 : Lib.nDigits (valOn 0 t) ≤ 19
  · exact h1
  · exfalso
    obtain ⟨k, hk⟩ : ∃ k, Lib.nDigits (valOn 0 t) = k + 20 := ⟨Lib.nDigits (valOn 0 t) - 20, by omega⟩
    have : ∀ (j u : Nat), Lib.nDigits u = j + 1 → 1 ≤ j → 10 ^ j ≤ u := by
      intro j
      induction j with
      | zero => intro u _ h; omega
      | succ j ih =>
        intro u hu _
        by_cases hs : u < 10
        · rw [Lib.nDigits_small hs] at hu; omega
        · rw [Lib.nDigits_big hs] at hu
          by_cases hj : 1 ≤ j
          · have := ih (u / 10) (by omega) hj
            rw [Nat.pow_succ]; omega
          · have : j = 0 := by omega
            subst this; simp; omega
    have h2 := this (k + 19) _ hk (by omega)
    have h3 : 10 ^ 19 ≤ 10 ^ (k + 19) := Nat.pow_le_pow_right (by omega) (by omega)
    have h4 : (10 : Nat) ^ 19 = 10000000000000000000 := by decide
    omega
theorem text_unique {m n : Int} {l : List UInt8} (h1 : textB m l = true) (h2 : textB n l = true) : m = n := by
  rw [text_iff] at h1 h2
  have := atoi_itoa m h1.1
  rw [h1.2, ← h2.2, atoi_itoa n h2.1] at this
  injection this with this
  exact this.symm
/-- what Parse comes to -/
def Parsed (l : List UInt8) (n e : Int) : Prop := (textB n l = true ∧ e = 0) ∨ ((∀ m, textB m l = false) ∧ n = 0 ∧ e = 10)
theorem parsed_unique {l : List UInt8} {n e m f : Int} (h1 : Parsed l n e) (h2 : Parsed l m f) : n = m ∧ e = f := by
  rcases h1 with ⟨a, b⟩ | ⟨a, b, c⟩ <;> rcases h2 with ⟨p, q⟩ | ⟨p, q, r⟩
  · exact ⟨text_unique a p, by omega⟩
  · rw [p n] at a; cases a
  · rw [a m] at p; cases p
  · exact ⟨by omega, by omega⟩
end Go.Proofs.YtcgdnpcegcmboaaGreatDoor.TextMath
end
section
namespace Go.Proofs.YtcgdnpcegcmboaaGreatDoor.ParsedM
open Go.Proofs.YtcgdnpcegcmboaaGreatDoor.TextMath
theorem none_of {l : List UInt8} {n e : Int} (h : Parsed l n e) (hn : ∀ m, textB m l = false) : n = 0 ∧ e = 10 := parsed_unique h (.inr ⟨hn, rfl, rfl⟩)
theorem some_of {l : List UInt8} {n e v : Int} (h : Parsed l n e) (hv : textB v l = true) : n = v ∧ e = 0 := parsed_unique h (.inl ⟨hv, rfl⟩)
end Go.Proofs.YtcgdnpcegcmboaaGreatDoor.ParsedM
end
section
namespace Go.Proofs.YtcgdnpcegcmboaaGreatDoor.Print
open Go.RowKit
open Go.Lib (decDigits itoa)
open Go.Proofs.YtcgdnpcegcmboaaGreatDoor.TextMath
set_option linter.unusedVariables false
set_option linter.unusedSimpArgs false

theorem hid_of {p : Prop} (h : p) : Hid p := h
theorem bel {B : Nat} {a b c : World} (h : Below B a b) (k : Below b.heap.size b c) (hB : B ≤ a.heap.size) : Below B a c := h.trans (k.mono (Nat.le_trans hB h.size))
theorem below_grow (w : World) (k : Nat) (os : Array Obj) : Below w.heap.size w (Sort.grow (w.drewN k) os) :=
  ⟨rfl, rfl, rfl, by simp [Sort.grow], fun j hj => by simp [Sort.grow, Array.getElem?_append, hj]⟩
theorem ret_s {a b : ByteArray} (h : a = b) : Ending.returned (.string a) = .returned (.string b) := by rw [h]

/-- the table of powers is there -/
def Tab (w : World) : Prop := Lib.TabIs Tryz.prog w "internal/strconv.uint64pow10" .u64 Lib.pow10Tab

set_option maxHeartbeats 400000 in
theorem print_any (n : Int) (w : World) (h : InI n) (ht : Tab w) :
    Calls Tryz.prog 140 #[.int .i64 n] w fun e w' => e = .returned (.string ⟨(itoa n).toArray⟩) ∧ Below w.heap.size w w' := by
  have HT := hid_of ht
  have H := hid_of h
  clear ht h
  go_enter Tryz.func140, Tryz.ntmps140
  go_wp2_with fail
  refine (Tryz.strconv_Itoa n H.out.1 H.out.2 _ HT.out).mono ?_
  rintro e w' ⟨rfl, k, os, rfl⟩
  have hb := below_grow w k os
  generalize Sort.grow (w.drewN k) os = w' at *
  go_wp2
  go_ret
  exact ⟨rfl, hb⟩

end Go.Proofs.YtcgdnpcegcmboaaGreatDoor.Print
end
section
namespace Go.Proofs.YtcgdnpcegcmboaaGreatDoor.Laid
open Go.RowKit
open Go.Proofs.YtcgdnpcegcmboaaGreatDoor.Print

theorem gPow : Tryz.prog.globalNamed "internal/strconv.uint64pow10" = some 2 := by kernel_rfl
theorem tPow : (Tryz.prog.globals[2]?).map (·.type) = some 272 := by kernel_rfl
theorem gSyn : Tryz.prog.globalNamed "strconv.ErrSyntax" = some 0 := by kernel_rfl
theorem tSyn : (Tryz.prog.globals[0]?).map (·.type) = some 223 := by kernel_rfl
theorem gRng : Tryz.prog.globalNamed "strconv.ErrRange" = some 1 := by kernel_rfl
theorem tRng : (Tryz.prog.globals[1]?).map (·.type) = some 223 := by kernel_rfl
theorem cells76 : Tryz.prog.cellsOf 38 = 1 := by kernel_rfl
theorem cells122 : Tryz.prog.cellsOf 272 = 20 := by kernel_rfl
theorem cells131 : Tryz.prog.cellsOf 270 = 1 := by kernel_rfl
theorem cells9 : Tryz.prog.cellsOf 9 = 1 := by kernel_rfl
theorem pow_data : (Rows.laid_internal_strconv_uint64pow10 : DataW Unit) = Lib.tabData .u64 Lib.pow10Tab := by kernel_rfl
theorem tab_of {W : World} {r : List (String × DataW Unit)} (h : laidMet Tryz.prog (("internal/strconv.uint64pow10", Rows.laid_internal_strconv_uint64pow10) :: r) W) : Tab W := by
  rw [pow_data] at h
  exact Lib.tabIs_of_head gPow tPow Tryz.underlying272 Tryz.underlying38 cells76 cells122 h
end Go.Proofs.YtcgdnpcegcmboaaGreatDoor.Laid
end
section
namespace Go.Proofs.YtcgdnpcegcmboaaGreatDoor.Parse
open Go.RowKit
open Go.Lib (decDigits itoa)
open Go.Proofs.YtcgdnpcegcmboaaGreatDoor.TextMath
open Go.Proofs.YtcgdnpcegcmboaaGreatDoor.Print
open Go.Proofs.YtcgdnpcegcmboaaGreatDoor.ParsedM
set_option linter.unusedVariables false
set_option linter.unusedSimpArgs false

theorem row_below (w : World) (s : ByteArray) : Below w.heap.size w (Lib.bytesWorld w 5 s) := by
  refine ⟨?_, ?_, ?_, ?_, ?_⟩
  · unfold Lib.bytesWorld World.freeze; rfl
  · unfold Lib.bytesWorld World.freeze; rfl
  · unfold Lib.bytesWorld World.freeze; rfl
  · rw [Lib.bytesWorld_size]; omega
  · intro k hk; exact Lib.bytesWorld_at_old w 5 s k hk
theorem atoi_ok (s : ByteArray) (hs : s.size ≤ 140737488351232) (v : Int) (h : Lib.atoiAll s.data.toList = .ok v) (w : World) :
    Calls Tryz.prog 172 #[.string s] w fun e w' => e = .returned (.tuple #[.int .i64 v, .nilIface]) ∧ Below w.heap.size w w' :=
  (Tryz.strconv_Atoi_ok s (by omega) v h w).mono fun e w' ⟨h1, h2⟩ => ⟨h1, by
    rcases h2 with rfl | ⟨t, rfl⟩
    · exact Below.refl _ _
    · exact row_below w t⟩

/-- what the row's list gives: the table, and the two errors -/
structure Has (w : World) : Prop where
  tab : Tab w
  syn : ∃ tp p, w.var? Tryz.prog "strconv.ErrSyntax" = some #[.iface tp p]
  rng : ∃ tp p, w.var? Tryz.prog "strconv.ErrRange" = some #[.iface tp p]
theorem var_lt {w : World} {n : String} {g : Nat} {cs : Array Value} (hg : Tryz.prog.globalNamed n = some g) (h : w.var? Tryz.prog n = some cs) : g < w.heap.size := by
  unfold World.var? at h
  rw [hg] at h
  simp only [Option.bind_some] at h
  rcases Nat.lt_or_ge g w.heap.size with q | q
  · exact q
  · rw [Array.getElem?_eq_none q] at h; simp at h
theorem Has.later {w w' : World} (h : Has w) (hb : Below w.heap.size w w') : Has w' := by
  obtain ⟨h1, ⟨tp, p, h2⟩, ⟨tq, q, h3⟩⟩ := h
  exact ⟨var?_below hb Laid.gPow (var_lt Laid.gPow h1) h1, ⟨tp, p, var?_below hb Laid.gSyn (var_lt Laid.gSyn h2) h2⟩, ⟨tq, q, var?_below hb Laid.gRng (var_lt Laid.gRng h3) h3⟩⟩

set_option maxHeartbeats 1000000 in
theorem parse_same (s : ByteArray) (v : Int) (w : World) (hs : s.size ≤ 140737488351232) (h : Lib.atoiAll s.data.toList = .ok v) (hv : itoa v = s.data.toList) (hh : Has w) :
    Calls Tryz.prog 136 #[.string s] w fun e w' => e = .returned (.tuple #[.int .i64 v, .int .i64 0]) ∧ Below w.heap.size w w' := by
  have hb := Lib.atoiAll_bounds h
  have H := hid_of h
  have HH := hid_of hh
  have hcmp : (itoa v == s.toList) = true := by rw [Lib.toList_data, beq_iff_eq]; exact hv
  have HB := hid_of hb
  clear h hh hv hb
  go_enter Tryz.func136, Tryz.ntmps136
  go_wp2_with fail
  refine (atoi_ok s hs v H.out _).mono ?_
  rintro e w1 ⟨rfl, b1⟩
  go_wp2_with fail
  refine (print_any v _ HB.out (HH.out.later b1).tab).mono ?_
  rintro e w2 ⟨rfl, b2⟩
  go_wp2
  go_ret2
  exact ⟨rfl, bel b1 b2 (Nat.le_refl _)⟩
set_option maxHeartbeats 1000000 in
theorem parse_other (s : ByteArray) (v : Int) (w : World) (hs : s.size ≤ 140737488351232) (h : Lib.atoiAll s.data.toList = .ok v) (hv : itoa v ≠ s.data.toList) (hh : Has w) :
    Calls Tryz.prog 136 #[.string s] w fun e w' => e = .returned (.tuple #[.int .i64 0, .int .i64 10]) ∧ Below w.heap.size w w' := by
  have hb := Lib.atoiAll_bounds h
  have H := hid_of h
  have HH := hid_of hh
  have hcmp : (itoa v == s.toList) = false := by rw [Lib.toList_data, beq_eq_false_iff_ne]; exact hv
  have HB := hid_of hb
  clear h hh hb hv
  go_enter Tryz.func136, Tryz.ntmps136
  go_wp2_with fail
  refine (atoi_ok s hs v H.out _).mono ?_
  rintro e w1 ⟨rfl, b1⟩
  go_wp2_with fail
  refine (print_any v _ HB.out (HH.out.later b1).tab).mono ?_
  rintro e w2 ⟨rfl, b2⟩
  go_wp2
  go_ret2
  exact ⟨rfl, bel b1 b2 (Nat.le_refl _)⟩
set_option maxHeartbeats 1000000 in
theorem parse_none (s : ByteArray) (w : World) (hs : s.size ≤ 140737488351232) (h : ∀ v, Lib.atoiAll s.data.toList ≠ .ok v) (hh : Has w) :
    Calls Tryz.prog 136 #[.string s] w fun e w' => e = .returned (.tuple #[.int .i64 0, .int .i64 10]) ∧ Below w.heap.size w w' := by
  obtain ⟨_, ⟨tp, p, h2⟩, ⟨tq, q, h3⟩⟩ := hh
  have H := hid_of h
  have H2 := hid_of h2
  have H3 := hid_of h3
  clear h h2 h3
  go_enter Tryz.func136, Tryz.ntmps136
  go_wp2_with fail
  refine (Tryz.strconv_Atoi_no s (by omega) H.out tp tq p q _ H2.out H3.out).mono ?_
  rintro e w1 ⟨n, N, rfl, b1⟩
  go_wp2
  go_ret2
  exact ⟨rfl, b1⟩

theorem parsed_ex (l : List UInt8) : ∃ n e, Parsed l n e := by
  by_cases h : ∃ m, textB m l = true
  · obtain ⟨m, h⟩ := h
    exact ⟨m, 0, .inl ⟨h, rfl⟩⟩
  · refine ⟨0, 10, .inr ⟨fun m => ?_, rfl, rfl⟩⟩
    cases e : textB m l
    · rfl
    · exact absurd ⟨m, e⟩ h
theorem parse_any (s : ByteArray) (w : World) (n e : Int) (hs : s.size ≤ 140737488351232) (HP : Parsed s.data.toList n e) (hh : Has w) :
    Calls Tryz.prog 136 #[.string s] w fun x w' => x = .returned (.tuple #[.int .i64 n, .int .i64 e]) ∧ Below w.heap.size w w' := by
  by_cases h : ∃ v, Lib.atoiAll s.data.toList = .ok v
  · obtain ⟨v, hv⟩ := h
    by_cases hi : itoa v = s.data.toList
    · have hp := some_of HP ((text_iff v _).2 ⟨Lib.atoiAll_bounds hv, hi⟩)
      rw [hp.1, hp.2]
      exact parse_same s v w hs hv hi hh
    · have hp := none_of HP (fun m => by
        cases q : textB m s.data.toList
        · rfl
        · exfalso
          have q' := (text_iff _ _).1 q
          have := atoi_itoa m q'.1
          rw [q'.2, hv] at this
          injection this with this
          subst this
          exact hi q'.2)
      rw [hp.1, hp.2]
      exact parse_other s v w hs hv hi hh
  · have hp := none_of HP (fun m => by
      cases q : textB m s.data.toList
      · rfl
      · exfalso
        have q' := (text_iff _ _).1 q
        have := atoi_itoa m q'.1
        rw [q'.2] at this
        exact h ⟨m, this⟩)
    rw [hp.1, hp.2]
    exact parse_none s w hs (fun v q => h ⟨v, q⟩) hh
end Go.Proofs.YtcgdnpcegcmboaaGreatDoor.Parse
end
