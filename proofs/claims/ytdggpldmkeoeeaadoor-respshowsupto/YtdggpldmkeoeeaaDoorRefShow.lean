/- The document's own Show. -/
import Derived.Test.YtdggpldmkeoeeaaDoorOwn
import Derived.Test.YtdggpldmkeoeeaaDoorRefMayTop
import Derived.Test.YtdggpldmkeoeeaaDoorShowAll
namespace Go.Proofs.YtdggpldmkeoeeaaDoor.RefShow
open Go.RowKit
open Go.Proofs.YtdggpldmkeoeeaaDoor.TextMath
open Go.Proofs.YtdggpldmkeoeeaaDoor.RepMath
open Go.Proofs.YtdggpldmkeoeeaaDoor.Cut
open Go.Proofs.YtdggpldmkeoeeaaDoor.Rep
open Go.Proofs.YtdggpldmkeoeeaaDoor.Print (rprint_any ret_s)
open Go.Proofs.YtdggpldmkeoeeaaDoor.Builder
open Go.Proofs.YtdggpldmkeoeeaaDoor.Show
open Go.Proofs.YtdggpldmkeoeeaaDoor.Shown
open Go.Proofs.YtdggpldmkeoeeaaDoor.ShowAll
open Go.Proofs.YtdggpldmkeoeeaaDoor.Own
set_option linter.unusedVariables false

theorem q_snoc (s : ByteArray) (k : Nat) (h : k < s.size) : RepMath.quoted ((bs s).take (k + 1)) = RepMath.quoted ((bs s).take k) ++ q1 s[k] := by
  rw [Show.take_snoc s k h]
  unfold RepMath.quoted
  rw [List.flatMap_append]
  simp
theorem q_cases (c : UInt8) : (((c.toNat : Int) == 34) = true ∧ q1 c = [92, c]) ∨ (((c.toNat : Int) == 34) = false ∧ ((c.toNat : Int) == 92) = true ∧ q1 c = [92, c])
    ∨ (((c.toNat : Int) == 34) = false ∧ ((c.toNat : Int) == 92) = false ∧ ((c.toNat : Int) == 10) = true ∧ q1 c = bs ⟨#[92, 110]⟩)
    ∨ (((c.toNat : Int) == 34) = false ∧ ((c.toNat : Int) == 92) = false ∧ ((c.toNat : Int) == 10) = false ∧ ((c.toNat : Int) == 13) = true ∧ q1 c = bs ⟨#[92, 114]⟩)
    ∨ (((c.toNat : Int) == 34) = false ∧ ((c.toNat : Int) == 92) = false ∧ ((c.toNat : Int) == 10) = false ∧ ((c.toNat : Int) == 13) = false ∧ ((c.toNat : Int) == 9) = true ∧ q1 c = bs ⟨#[92, 116]⟩)
    ∨ (((c.toNat : Int) == 34) = false ∧ ((c.toNat : Int) == 92) = false ∧ ((c.toNat : Int) == 10) = false ∧ ((c.toNat : Int) == 13) = false ∧ ((c.toNat : Int) == 9) = false
        ∧ (decide ((c.toNat : Int) < 32) = true ∨ (decide ((c.toNat : Int) < 32) = false ∧ decide (126 < (c.toNat : Int)) = true)) ∧ q1 c = [92, 120, hexd (c.toNat / 16), hexd (c.toNat % 16)])
    ∨ (((c.toNat : Int) == 34) = false ∧ ((c.toNat : Int) == 92) = false ∧ ((c.toNat : Int) == 10) = false ∧ ((c.toNat : Int) == 13) = false ∧ ((c.toNat : Int) == 9) = false
        ∧ decide ((c.toNat : Int) < 32) = false ∧ decide (126 < (c.toNat : Int)) = false ∧ q1 c = [c]) := by
  have hne : ∀ k : Nat, c.toNat ≠ k → ((c.toNat : Int) == (k : Int)) = false := fun k hk => by rw [beq_eq_false_iff_ne]; omega
  have heq : ∀ k : Nat, c.toNat = k → ((c.toNat : Int) == (k : Int)) = true := fun k hk => by rw [beq_iff_eq]; omega
  by_cases h34 : c.toNat = 34
  · exact Or.inl ⟨heq 34 h34, q_esc (Or.inl h34)⟩
  · by_cases h92 : c.toNat = 92
    · exact Or.inr (Or.inl ⟨hne 34 h34, heq 92 h92, q_esc (Or.inr h92)⟩)
    · by_cases h2 : c.toNat = 10
      · exact Or.inr (Or.inr (Or.inl ⟨hne 34 h34, hne 92 h92, heq 10 h2, q_nl h2⟩))
      · by_cases h3 : c.toNat = 13
        · exact Or.inr (Or.inr (Or.inr (Or.inl ⟨hne 34 h34, hne 92 h92, hne 10 h2, heq 13 h3, q_cr h3⟩)))
        · by_cases h4 : c.toNat = 9
          · exact Or.inr (Or.inr (Or.inr (Or.inr (Or.inl ⟨hne 34 h34, hne 92 h92, hne 10 h2, hne 13 h3, heq 9 h4, q_tab h4⟩))))
          · by_cases h5 : c.toNat < 32 ∨ 126 < c.toNat
            · refine Or.inr (Or.inr (Or.inr (Or.inr (Or.inr (Or.inl ⟨hne 34 h34, hne 92 h92, hne 10 h2, hne 13 h3, hne 9 h4, ?_, q_hex (by omega) h2 h3 h4 h5⟩)))))
              by_cases h6 : c.toNat < 32
              · exact Or.inl (by simp; omega)
              · exact Or.inr ⟨by simp; omega, by simp; omega⟩
            · exact Or.inr (Or.inr (Or.inr (Or.inr (Or.inr (Or.inr ⟨hne 34 h34, hne 92 h92, hne 10 h2, hne 13 h3, hne 9 h4, by simp; omega, by simp; omega, q_self (by omega) h2 h3 h4 h5⟩)))))
set_option maxRecDepth 100000 in
set_option maxHeartbeats 4000000 in
theorem rquoted_any (s : ByteArray) (w : World) (hs : s.size ≤ 1048576) :
    Calls Tryd.prog 34 #[.string s] w fun e w' => e = .returned (.string ⟨(shQ (bs s)).toArray⟩) ∧ Below w.heap.size w w' := by
  go_enter Tryd.func34, Tryd.ntmps34
  go_wp2_with fail
  go_loopg [3, 4] s.size (fun g v s4 wx => ∃ (k : Nat) (acc : List UInt8), k ≤ s.size ∧ s.size ≤ k + g ∧ s4 = .int .i64 k ∧ acc.length ≤ 4 * k + 1 ∧ Hid (acc = [34] ++ RepMath.quoted ((bs s).take k)) ∧ Hid (Own w.heap.size v acc wx ∧ Below w.heap.size w wx))
  case atStart =>
    refine ⟨0, [34], by omega, by omega, rfl, by simp, rfl, ?_, ?_⟩
    · refine ⟨⟨rfl, Or.inr ⟨w.heap.size, 1, #[.int .u8 34], rfl, Nat.le_refl _, heap_alloc_new w _, Nat.le_refl _, by decide, rfl, rfl⟩⟩, by simp⟩
    · exact (Below.refl _ w).alloc (Nat.le_refl _) _
  case round =>
    obtain ⟨k, acc, hk, hg, rfl, hacc, HA, HH⟩ := hrel
    have hsz := HH.out.2.size
    by_cases hlt : k < s.size
    · obtain ⟨g', rfl⟩ : ∃ g', gk = g' + 1 := ⟨gk - 1, by omega⟩
      have HS := hid_of (q_snoc s k hlt)
      have HX : Hid (∀ x, q1 s[k] = x → acc ++ x = [34] ++ RepMath.quoted ((bs s).take (k + 1))) := by
        intro x hx
        rw [HS.out, HA.out, hx, List.append_assoc]
      clear HS HA
      rcases q_cases s[k] with ⟨t1, hq⟩ | ⟨t1, t2, hq⟩ | ⟨t1, t2, t3, hq⟩ | ⟨t1, t2, t3, t4, hq⟩ | ⟨t1, t2, t3, t4, t5, hq⟩ | ⟨t1, t2, t3, t4, t5, t6, hq⟩ | ⟨t1, t2, t3, t4, t5, t6, t7, hq⟩
      · have H1 := hid_of (HX.out _ hq)
        clear hq HX
        go_wp2_with (at_builtin; refine wpl_put rfl _ _ rfl w.heap.size _ acc [92, s[k]] wr _ rfl 2 HH.out.1 rfl rfl (by show acc.length + 2 ≤ _; omega) ?_)
        intro v' w1 o1 b1
        have R := hid_of (And.intro o1 (HH.out.2.trans b1))
        clear o1 b1 HH
        go_wp2_with fail
        go_roundg g'
        case measure => omega
        case rel => exact ⟨k + 1, _, hlt, by omega, rfl, by rw [List.length_append]; show _ + 2 ≤ _; omega, H1, R⟩
      · have H1 := hid_of (HX.out _ hq)
        clear hq HX
        go_wp2_with (at_builtin; refine wpl_put rfl _ _ rfl w.heap.size _ acc [92, s[k]] wr _ rfl 2 HH.out.1 rfl rfl (by show acc.length + 2 ≤ _; omega) ?_)
        intro v' w1 o1 b1
        have R := hid_of (And.intro o1 (HH.out.2.trans b1))
        clear o1 b1 HH
        go_wp2_with fail
        go_roundg g'
        case measure => omega
        case rel => exact ⟨k + 1, _, hlt, by omega, rfl, by rw [List.length_append]; show _ + 2 ≤ _; omega, H1, R⟩
      · have H1 := hid_of (HX.out _ hq)
        clear hq HX
        go_wp2_with (at_builtin; refine wpl_str rfl _ _ rfl w.heap.size _ acc ⟨#[92, 110]⟩ wr HH.out.1 rfl rfl (by show acc.length + 2 ≤ _; omega) ?_)
        intro v' w1 o1 b1
        have R := hid_of (And.intro o1 (HH.out.2.trans b1))
        clear o1 b1 HH
        go_wp2_with fail
        go_roundg g'
        case measure => omega
        case rel => exact ⟨k + 1, _, hlt, by omega, rfl, by rw [List.length_append]; show _ + 2 ≤ _; omega, H1, R⟩
      · have H1 := hid_of (HX.out _ hq)
        clear hq HX
        go_wp2_with (at_builtin; refine wpl_str rfl _ _ rfl w.heap.size _ acc ⟨#[92, 114]⟩ wr HH.out.1 rfl rfl (by show acc.length + 2 ≤ _; omega) ?_)
        intro v' w1 o1 b1
        have R := hid_of (And.intro o1 (HH.out.2.trans b1))
        clear o1 b1 HH
        go_wp2_with fail
        go_roundg g'
        case measure => omega
        case rel => exact ⟨k + 1, _, hlt, by omega, rfl, by rw [List.length_append]; show _ + 2 ≤ _; omega, H1, R⟩
      · have H1 := hid_of (HX.out _ hq)
        clear hq HX
        go_wp2_with (at_builtin; refine wpl_str rfl _ _ rfl w.heap.size _ acc ⟨#[92, 116]⟩ wr HH.out.1 rfl rfl (by show acc.length + 2 ≤ _; omega) ?_)
        intro v' w1 o1 b1
        have R := hid_of (And.intro o1 (HH.out.2.trans b1))
        clear o1 b1 HH
        go_wp2_with fail
        go_roundg g'
        case measure => omega
        case rel => exact ⟨k + 1, _, hlt, by omega, rfl, by rw [List.length_append]; show _ + 2 ≤ _; omega, H1, R⟩
      · have H1 := hid_of (HX.out _ hq)
        have hx1 := hex_at ((s[k].toNat : Int) / 16 % 256) (s[k].toNat / 16) (by have := UInt8.toNat_lt s[k]; omega) (by have := UInt8.toNat_lt s[k]; omega)
        have hx2 := hex_at ((s[k].toNat : Int) % 16 % 256) (s[k].toNat % 16) (by omega) (by omega)
        have hx3 := hex_at ((s[k].toNat : Int) % 16) (s[k].toNat % 16) (by omega) (by omega)
        have hx4 := hex_at ((s[k].toNat : Int) / 16) (s[k].toNat / 16) (by omega) (by have := UInt8.toNat_lt s[k]; omega)
        have hm : (s[k].toNat : Int).tmod 16 = (s[k].toNat : Int) % 16 := Int.tmod_eq_emod_of_nonneg (by omega)
        have hw1 : IntKind.u8.wrap ((s[k].toNat : Int) / 16) = (s[k].toNat : Int) / 16 := by have := UInt8.toNat_lt s[k]; rw [show IntKind.u8.wrap ((s[k].toNat : Int) / 16) = ((s[k].toNat : Int) / 16) % 256 from rfl]; omega
        have hw2 : IntKind.u8.wrap ((s[k].toNat : Int) % 16) = (s[k].toNat : Int) % 16 := by rw [show IntKind.u8.wrap ((s[k].toNat : Int) % 16) = ((s[k].toNat : Int) % 16) % 256 from rfl]; omega
        have HD : Hid (Own w.heap.size _ acc wr.drew) := HH.out.1
        clear hq HX
        rcases t6 with t6 | ⟨t6, t7⟩
        all_goals
          go_wp2_with fail
          go_region_law (first | (refine step_put rfl (.tmp 53) (.tmp 60) rfl w.heap.size _ acc [92, 120, hexd (s[k].toNat / 16), hexd (s[k].toNat % 16)] wr.drew _ rfl 4 HD.out (by simp [Act.eval]) (by simp [Act.eval]) (by show acc.length + 4 ≤ _; omega) ?_; intro v' w1 o1 b1))
          all_goals
            have R : Hid (Own w.heap.size v' (acc ++ [92, 120, hexd (s[k].toNat / 16), hexd (s[k].toNat % 16)]) w1 ∧ Below w.heap.size w w1) := ⟨o1, HH.out.2.drew.trans b1⟩
            clear o1 b1 HH HD
            go_wp2_with fail
            go_roundg g'
            case measure => omega
            case rel => exact ⟨k + 1, _, hlt, by omega, rfl, by rw [List.length_append]; show _ + 4 ≤ _; omega, H1, R⟩
      · have H1 := hid_of (HX.out _ hq)
        clear hq HX
        go_wp2_with (at_builtin; refine wpl_put rfl _ _ rfl w.heap.size _ acc [s[k]] wr _ rfl 1 HH.out.1 rfl rfl (by show acc.length + 1 ≤ _; omega) ?_)
        intro v' w1 o1 b1
        have R := hid_of (And.intro o1 (HH.out.2.trans b1))
        clear o1 b1 HH
        go_wp2_with fail
        go_roundg g'
        case measure => omega
        case rel => exact ⟨k + 1, _, hlt, by omega, rfl, by rw [List.length_append]; show _ + 1 ≤ _; omega, H1, R⟩
    · have HT : Hid ((bs s).take k = bs s) := List.take_of_length_le (by rw [len_bs]; omega)
      go_wp2_with (at_builtin; refine wpl_put rfl _ _ rfl w.heap.size _ acc [34] wr _ rfl 1 HH.out.1 rfl rfl (by show acc.length + 1 ≤ _; omega) ?_)
      intro v' w1 o1 b1
      have hcv := conv_own o1
      have R := hid_of (HH.out.2.trans b1)
      clear o1 b1
      go_wp2_with fail
      go_ret
      exact ⟨ret_s (by rw [HA.out, HT.out]; rfl), R.out⟩
end Go.Proofs.YtdggpldmkeoeeaaDoor.RefShow
