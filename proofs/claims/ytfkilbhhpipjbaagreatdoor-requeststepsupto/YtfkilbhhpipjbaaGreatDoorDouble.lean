/- What the beginning of a double part means. -/
import Derived.Test.YtfkilbhhpipjbaaGreatDoorSplitC
import Derived.Test.YtfkilbhhpipjbaaGreatDoorShelf2
namespace Go.Proofs.YtfkilbhhpipjbaaGreatDoor.Double
open Go.RowKit
open Go.Proofs.YtfkilbhhpipjbaaGreatDoor.TextMath
open Go.Proofs.YtfkilbhhpipjbaaGreatDoor.ReqMath
open Go.Proofs.YtfkilbhhpipjbaaGreatDoor.Base
open Go.Proofs.YtfkilbhhpipjbaaGreatDoor.Small
open Go.Proofs.YtfkilbhhpipjbaaGreatDoor.Quoted
open Go.Proofs.YtfkilbhhpipjbaaGreatDoor.Grow
open Go.Proofs.YtfkilbhhpipjbaaGreatDoor.SplitC
set_option linter.unusedVariables false
set_option maxRecDepth 100000 in
theorem back_call (c : UInt8) (w : World) : Calls Tryz.prog 79 #[.int .u8 (c.toNat : Int)] w fun e w' => e = .returned (.int .u8 ((backV c).toNat : Int)) ∧ w' = w := by
  by_cases h1 : c = 110
  · subst h1
    go_enter Tryz.func79, Tryz.ntmps79
    go_wp2_with fail
    go_ret
    exact ⟨rfl, rfl⟩
  by_cases h2 : c = 114
  · subst h2
    go_enter Tryz.func79, Tryz.ntmps79
    go_wp2_with fail
    go_ret
    exact ⟨rfl, rfl⟩
  by_cases h3 : c = 116
  · subst h3
    go_enter Tryz.func79, Tryz.ntmps79
    go_wp2_with fail
    go_ret
    exact ⟨rfl, rfl⟩
  by_cases h4 : c = 98
  · subst h4
    go_enter Tryz.func79, Tryz.ntmps79
    go_wp2_with fail
    go_ret
    exact ⟨rfl, rfl⟩
  by_cases h5 : c = 97
  · subst h5
    go_enter Tryz.func79, Tryz.ntmps79
    go_wp2_with fail
    go_ret
    exact ⟨rfl, rfl⟩
  have hb : backV c = c := by unfold backV; rw [if_neg h1, if_neg h2, if_neg h3, if_neg h4, if_neg h5]
  rw [hb]
  have ne : ∀ d : UInt8, c ≠ d → ((c.toNat : Int) == (d.toNat : Int)) = false := by
    intro d hd
    have : c.toNat ≠ d.toNat := fun e => hd (UInt8.toNat_inj.1 e)
    simp; omega
  have e1 : ((c.toNat : Int) == 110) = false := ne 110 h1
  have e2 : ((c.toNat : Int) == 114) = false := ne 114 h2
  have e3 : ((c.toNat : Int) == 116) = false := ne 116 h3
  have e4 : ((c.toNat : Int) == 98) = false := ne 98 h4
  have e5 : ((c.toNat : Int) == 97) = false := ne 97 h5
  clear ne hb h1 h2 h3 h4 h5
  go_enter Tryz.func79, Tryz.ntmps79
  go_wp2_with fail
  go_ret
  exact ⟨rfl, rfl⟩
/- the classes of a byte -/
def lo (c : UInt8) : Int := bits .or .u8 (c.toNat : Int) 32
def clsB (c : UInt8) : Bool := match hexV c with
  | some x => (decide (48 ≤ c.toNat) && decide (c.toNat ≤ 57) && decide (x = c.toNat - 48)) || (decide (57 < c.toNat) && decide (97 ≤ lo c) && decide (lo c ≤ 122) && decide (lo c - 97 + 10 = (x : Int)) && decide (x ≤ 15))
  | none => (decide (c.toNat < 48) && decide (lo c < 97)) || (decide (57 < c.toNat) && (decide (lo c < 97) || (decide (97 ≤ lo c) && decide (122 < lo c)) || (decide (97 ≤ lo c) && decide (lo c ≤ 122) && decide (16 ≤ lo c - 97 + 10))))
theorem cls_all : ∀ n : Fin 256, clsB (UInt8.ofNat n.val) = true := by decide +kernel
theorem cls_b (c : UInt8) : clsB c = true := by
  have := cls_all ⟨c.toNat, c.toNat_lt⟩
  simpa using this
inductive Cls (c : UInt8) : Prop
  | dig (h1 : 48 ≤ (c.toNat : Int)) (h2 : (c.toNat : Int) ≤ 57) (h : hexV c = some (c.toNat - 48))
  | let_ (h1 : 57 < (c.toNat : Int)) (x : Nat) (l1 : 97 ≤ lo c) (l2 : lo c ≤ 122) (l3 : lo c - 97 + 10 = (x : Int)) (hx : x ≤ 15) (h : hexV c = some x)
  | low (h1 : (c.toNat : Int) < 48) (l1 : lo c < 97) (h : hexV c = none)
  | mid (h1 : 57 < (c.toNat : Int)) (l1 : lo c < 97) (h : hexV c = none)
  | high (h1 : 57 < (c.toNat : Int)) (l1 : 97 ≤ lo c) (l2 : 122 < lo c) (h : hexV c = none)
  | much (h1 : 57 < (c.toNat : Int)) (l1 : 97 ≤ lo c) (l2 : lo c ≤ 122) (l3 : 16 ≤ lo c - 97 + 10) (h : hexV c = none)
theorem cls (c : UInt8) : Cls c := by
  have h := cls_b c
  unfold clsB at h
  cases hx : hexV c with
  | some x =>
    rw [hx] at h
    simp only [Bool.or_eq_true, Bool.and_eq_true, decide_eq_true_eq] at h
    rcases h with ⟨⟨h1, h2⟩, rfl⟩ | ⟨⟨⟨⟨h1, h2⟩, h3⟩, h4⟩, h5⟩
    · exact .dig (by omega) (by omega) hx
    · exact .let_ (by omega) x h2 h3 h4 h5 hx
  | none =>
    rw [hx] at h
    simp only [Bool.or_eq_true, Bool.and_eq_true, decide_eq_true_eq] at h
    rcases h with ⟨h1, h2⟩ | ⟨h1, (h2 | ⟨h2, h3⟩) | ⟨⟨h2, h3⟩, h4⟩⟩
    · exact .low (by omega) h2 hx
    · exact .mid (by omega) h2 hx
    · exact .high (by omega) h2 h3 hx
    · exact .much (by omega) h2 h3 h4 hx
set_option maxRecDepth 100000 in
theorem lower_call (c : UInt8) (w : World) : Calls Tryz.prog 103 #[.int .u8 (c.toNat : Int)] w fun e w' => e = .returned (.int .u8 (lo c)) ∧ w' = w := by
  unfold lo
  go_enter Tryz.func103, Tryz.ntmps103
  go_wp2_with fail
  go_ret
  exact ⟨rfl, rfl⟩
def pre (a b : UInt8) : Nat → Nat → Prop
  | 0, n => n = 0
  | 1, n => hexV a = some n ∧ n ≤ 15
  | _, n => ∃ x y, hexV a = some x ∧ hexV b = some y ∧ n = 16 * x + y ∧ x ≤ 15 ∧ y ≤ 15
@[reducible] def okE (n : Nat) : Ending := .returned (.tuple #[.int .u64 (n : Int), .nilIface])
@[reducible] def noE : Ending := .returned (.tuple #[.int .u64 0, .iface 141 (.int .i64 2)])
set_option maxRecDepth 100000 in
set_option maxHeartbeats 4000000 in
theorem parse2 (a b : UInt8) (w : World) : Calls Tryz.prog 89 #[.string ⟨#[a, b]⟩, .int .i64 16, .int .i64 8] w fun e w' =>
    ((∃ n, pre a b 2 n ∧ e = okE n) ∨ ((hexV a = none ∨ hexV b = none) ∧ e = noE)) ∧ Below w.heap.size w w' := by
  obtain ⟨v, w1, hr, hbx, hsl, b1⟩ := bytes_of w ⟨#[a, b]⟩
  obtain ⟨g, o, cap, cs, fz, rfl, hcap, hg, hcs, hfz, hB⟩ := hbx
  have h0 : w1.cell? ⟨g, o + 0, none⟩ = some (.int .u8 (a.toNat : Int)) := hB 0 (show 0 < 2 by decide)
  have h1 : w1.cell? ⟨g, o + 1, none⟩ = some (.int .u8 (b.toNat : Int)) := hB 1 (show 1 < 2 by decide)
  have HB := hid_of b1
  have HL := hid_of lower_call
  rw [show (⟨#[a, b]⟩ : ByteArray).size = 2 from rfl] at hr
  rw [Nat.add_zero] at h0
  clear hcap hg hcs hfz hB hsl b1
  unfold okE noE
  go_enter Tryz.func89, Tryz.ntmps89
  go_wp2_with fail
  go_loopg [101, 13, 12] 2 (fun g s101 s13 s12 wx => ∃ (i : Nat) (m : Int), i + g = 2 ∧ s101 = .int .i64 i ∧ s13 = .int .u64 m ∧ s12 = .bool false ∧ wx = w1 ∧ Hid (∃ n : Nat, m = (n : Int) ∧ pre a b i n))
  case atStart => exact ⟨0, 0, rfl, rfl, rfl, rfl, rfl, 0, rfl, rfl⟩
  case round =>
    obtain ⟨i, m, hi, rfl, rfl, rfl, rfl, HP⟩ := hrel
    match i, hi, HP with
    | 0, hi, HP =>
      obtain rfl : m = 0 := by obtain ⟨n, rfl, h⟩ := HP.out; have : n = 0 := h; rw [this]; rfl
      obtain rfl : gk = 2 := by omega
      by_cases h95 : a = 95
      · have hx : hexV a = none := by rw [h95]; decide
        subst h95
        go_wp2_with fail
        refine (HL.out 95 _).mono ?_
        rintro e w2 ⟨rfl, hw⟩
        subst hw
        rw [show lo 95 = 127 from by decide]
        go_wp2_with fail
        refine (HL.out 95 _).mono ?_
        rintro e w2 ⟨rfl, hw⟩
        subst hw
        rw [show lo 95 = 127 from by decide]
        go_wp2_with fail
        go_ret2
        first | exact ⟨Or.inr ⟨(Or.inl hx), rfl⟩, HB.out⟩ | exact ⟨Or.inr rfl, HB.out⟩
      have e95 : ((a.toNat : Int) == 95) = false := by
        have : a.toNat ≠ (95 : UInt8).toNat := fun e => h95 (UInt8.toNat_inj.1 e)
        simp at this ⊢; omega
      clear h95
      cases cls a with
      | dig d1 d2 hx =>
        go_wp2_with fail
        go_roundg 1
        case measure => omega
        case rel =>
          refine ⟨1, (a.toNat : Int) - 48, by omega, rfl, ?_, rfl, rfl, ⟨a.toNat - 48, by omega, hx, by omega⟩⟩
          rfl
      | let_ hnd x l1 l2 l3 hx15 hx =>
        go_wp2_with fail
        refine (HL.out a _).mono ?_
        rintro e w2 ⟨rfl, hw⟩
        subst hw
        go_wp2_with fail
        refine (HL.out a _).mono ?_
        rintro e w2 ⟨rfl, hw⟩
        subst hw
        go_wp2_with fail
        refine (HL.out a _).mono ?_
        rintro e w2 ⟨rfl, hw⟩
        subst hw
        go_wp2_with fail
        go_roundg 1
        case measure => omega
        case rel =>
          refine ⟨1, x, by omega, rfl, ?_, rfl, rfl, ⟨x, rfl, hx, hx15⟩⟩
          rfl
      | low hnd l1 hx =>
        go_wp2_with fail
        refine (HL.out a _).mono ?_
        rintro e w2 ⟨rfl, hw⟩
        subst hw
        go_wp2_with fail
        go_ret2
        first | exact ⟨Or.inr ⟨(Or.inl hx), rfl⟩, HB.out⟩ | exact ⟨Or.inr rfl, HB.out⟩
      | mid hnd l1 hx =>
        go_wp2_with fail
        refine (HL.out a _).mono ?_
        rintro e w2 ⟨rfl, hw⟩
        subst hw
        go_wp2_with fail
        go_ret2
        first | exact ⟨Or.inr ⟨(Or.inl hx), rfl⟩, HB.out⟩ | exact ⟨Or.inr rfl, HB.out⟩
      | high hnd l1 l2 hx =>
        go_wp2_with fail
        refine (HL.out a _).mono ?_
        rintro e w2 ⟨rfl, hw⟩
        subst hw
        go_wp2_with fail
        refine (HL.out a _).mono ?_
        rintro e w2 ⟨rfl, hw⟩
        subst hw
        go_wp2_with fail
        go_ret2
        first | exact ⟨Or.inr ⟨(Or.inl hx), rfl⟩, HB.out⟩ | exact ⟨Or.inr rfl, HB.out⟩
      | much hnd l1 l2 l3 hx =>
        go_wp2_with fail
        refine (HL.out a _).mono ?_
        rintro e w2 ⟨rfl, hw⟩
        subst hw
        go_wp2_with fail
        refine (HL.out a _).mono ?_
        rintro e w2 ⟨rfl, hw⟩
        subst hw
        go_wp2_with fail
        refine (HL.out a _).mono ?_
        rintro e w2 ⟨rfl, hw⟩
        subst hw
        go_wp2_with fail
        go_ret2
        first | exact ⟨Or.inr ⟨(Or.inl hx), rfl⟩, HB.out⟩ | exact ⟨Or.inr rfl, HB.out⟩
    | 1, hi, HP =>
      obtain ⟨m0, m15⟩ : 0 ≤ m ∧ m ≤ 15 := by obtain ⟨n, rfl, h⟩ := HP.out; have := h.2; omega
      obtain rfl : gk = 1 := by omega
      by_cases h95 : b = 95
      · have hx : hexV b = none := by rw [h95]; decide
        subst h95
        go_wp2_with fail
        refine (HL.out 95 _).mono ?_
        rintro e w2 ⟨rfl, hw⟩
        subst hw
        rw [show lo 95 = 127 from by decide]
        go_wp2_with fail
        refine (HL.out 95 _).mono ?_
        rintro e w2 ⟨rfl, hw⟩
        subst hw
        rw [show lo 95 = 127 from by decide]
        go_wp2_with fail
        go_ret2
        first | exact ⟨Or.inr ⟨(Or.inr hx), rfl⟩, HB.out⟩ | exact ⟨Or.inr rfl, HB.out⟩
      have e95 : ((b.toNat : Int) == 95) = false := by
        have : b.toNat ≠ (95 : UInt8).toNat := fun e => h95 (UInt8.toNat_inj.1 e)
        simp at this ⊢; omega
      clear h95
      cases cls b with
      | dig d1 d2 hx =>
        go_wp2_with fail
        go_roundg 0
        case measure => omega
        case rel =>
          refine ⟨2, m * 16 + ((b.toNat : Int) - 48), by omega, rfl, ?_, rfl, rfl, (by obtain ⟨n, rfl, h⟩ := HP.out; exact ⟨16 * n + (b.toNat - 48), by omega, n, _, h.1, hx, rfl, h.2, by omega⟩)⟩
          rfl
      | let_ hnd x l1 l2 l3 hx15 hx =>
        go_wp2_with fail
        refine (HL.out b _).mono ?_
        rintro e w2 ⟨rfl, hw⟩
        subst hw
        go_wp2_with fail
        refine (HL.out b _).mono ?_
        rintro e w2 ⟨rfl, hw⟩
        subst hw
        go_wp2_with fail
        refine (HL.out b _).mono ?_
        rintro e w2 ⟨rfl, hw⟩
        subst hw
        go_wp2_with fail
        go_roundg 0
        case measure => omega
        case rel =>
          refine ⟨2, m * 16 + x, by omega, rfl, ?_, rfl, rfl, (by obtain ⟨n, rfl, h⟩ := HP.out; exact ⟨16 * n + x, by omega, n, _, h.1, hx, rfl, h.2, hx15⟩)⟩
          rfl
      | low hnd l1 hx =>
        go_wp2_with fail
        refine (HL.out b _).mono ?_
        rintro e w2 ⟨rfl, hw⟩
        subst hw
        go_wp2_with fail
        go_ret2
        first | exact ⟨Or.inr ⟨(Or.inr hx), rfl⟩, HB.out⟩ | exact ⟨Or.inr rfl, HB.out⟩
      | mid hnd l1 hx =>
        go_wp2_with fail
        refine (HL.out b _).mono ?_
        rintro e w2 ⟨rfl, hw⟩
        subst hw
        go_wp2_with fail
        go_ret2
        first | exact ⟨Or.inr ⟨(Or.inr hx), rfl⟩, HB.out⟩ | exact ⟨Or.inr rfl, HB.out⟩
      | high hnd l1 l2 hx =>
        go_wp2_with fail
        refine (HL.out b _).mono ?_
        rintro e w2 ⟨rfl, hw⟩
        subst hw
        go_wp2_with fail
        refine (HL.out b _).mono ?_
        rintro e w2 ⟨rfl, hw⟩
        subst hw
        go_wp2_with fail
        go_ret2
        first | exact ⟨Or.inr ⟨(Or.inr hx), rfl⟩, HB.out⟩ | exact ⟨Or.inr rfl, HB.out⟩
      | much hnd l1 l2 l3 hx =>
        go_wp2_with fail
        refine (HL.out b _).mono ?_
        rintro e w2 ⟨rfl, hw⟩
        subst hw
        go_wp2_with fail
        refine (HL.out b _).mono ?_
        rintro e w2 ⟨rfl, hw⟩
        subst hw
        go_wp2_with fail
        refine (HL.out b _).mono ?_
        rintro e w2 ⟨rfl, hw⟩
        subst hw
        go_wp2_with fail
        go_ret2
        first | exact ⟨Or.inr ⟨(Or.inr hx), rfl⟩, HB.out⟩ | exact ⟨Or.inr rfl, HB.out⟩
    | 2, hi, HP =>
      go_wp2_with fail
      go_ret2
      obtain ⟨n, rfl, h⟩ := HP.out
      exact ⟨Or.inl ⟨n, h, rfl⟩, HB.out⟩
    | k + 3, hi, HP => omega
end Go.Proofs.YtfkilbhhpipjbaaGreatDoor.Double
