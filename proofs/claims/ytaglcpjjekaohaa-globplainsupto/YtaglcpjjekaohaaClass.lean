/- The contracts of glob's literal, classItem, classTakes and takesByte, and of the document's own class. -/
import Derived.Test.YtaglcpjjekaohaaRows
import Derived.Test.YtaglcpjjekaohaaMath
import Derived.WalkKit
import Derived.Below
import Derived.BigQuiet
import Derived.Deep.LoopGhost
namespace Go.Proofs.Ytaglcpjjekaohaa.Class
open Go.RowKit
open Go.Proofs.Ytaglcpjjekaohaa.Math
set_option linter.unusedVariables false

theorem hid_of {p : Prop} (h : p) : Hid p := h
theorem val_i {a b : Int} (h : a = b) : Value.int .i64 a = .int .i64 b := by rw [h]
theorem val_b {a b : Bool} (h : a = b) : Value.bool a = .bool b := by rw [h]
theorem ret_ci {a b c d : Int} (h1 : a = b) (h2 : c = d) : Ending.returned (.tuple #[.int .u8 a, .int .i64 c]) = .returned (.tuple #[.int .u8 b, .int .i64 d]) := by rw [h1, h2]
theorem ret_ib {a b : Int} {c d : Bool} (h1 : a = b) (h2 : c = d) : Ending.returned (.tuple #[.int .i64 a, .bool c]) = .returned (.tuple #[.int .i64 b, .bool d]) := by rw [h1, h2]
theorem ret_bi {a b : Int} {c d : Bool} (h1 : a = b) (h2 : c = d) : Ending.returned (.tuple #[.bool c, .int .i64 a]) = .returned (.tuple #[.bool d, .int .i64 b]) := by rw [h1, h2]

/-! ### literal -/
set_option maxHeartbeats 400000 in
theorem literal_esc (p : ByteArray) (i : Nat) (w : World) (hp : p.size ≤ 1000000000) (h : i + 1 < p.size) (e : p[i].toNat = 92) :
    Calls Try.prog 24 #[.string p, .int .i64 i] w fun e w' => e = .returned (.tuple #[.int .u8 p[i + 1].toNat, .int .i64 ((i : Int) + 2)]) ∧ w' = w := by
  have hi : i < p.size := by omega
  go_enter Try.func24, Try.ntmps24
  go_wp2
  go_ret2
  exact ⟨rfl, rfl⟩
set_option maxHeartbeats 400000 in
theorem literal_one (p : ByteArray) (i : Nat) (w : World) (hp : p.size ≤ 1000000000) (h : i < p.size) (e : ¬ (p[i].toNat = 92 ∧ i + 1 < p.size)) :
    Calls Try.prog 24 #[.string p, .int .i64 i] w fun e w' => e = .returned (.tuple #[.int .u8 p[i].toNat, .int .i64 ((i : Int) + 1)]) ∧ w' = w := by
  by_cases e1 : p[i].toNat = 92
  · have hi : i + 1 = p.size := by omega
    go_enter Try.func24, Try.ntmps24
    go_wp2
    go_ret2
    exact ⟨ret_ci (by rw [e1]; rfl) rfl, rfl⟩
  · clear e
    go_enter Try.func24, Try.ntmps24
    go_wp2
    go_ret2
    exact ⟨rfl, rfl⟩

/-! ### classItem -/
theorem index_at (p : ByteArray) (j : Nat) (h : j < p.size) (x : Int) (hx : x = (j : Int)) (w : World) : (Instr.index 9 (.string p) (.int .i64 x)).run Try.prog w = .ok (.int .u8 p[j].toNat) w := by
  subst hx
  rw [run_index_string w 9 p .i64 (j : Int) Try.underlying9, dif_pos ⟨by omega, by omega⟩]
  rfl
theorem drew_zero (w : World) : ∃ m, w = w.drewN m := ⟨0, rfl⟩
theorem ret_cci {a b c d e f : Int} (h1 : a = b) (h2 : c = d) (h3 : e = f) : Ending.returned (.tuple #[.int .u8 a, .int .u8 c, .int .i64 e]) = .returned (.tuple #[.int .u8 b, .int .u8 d, .int .i64 f]) := by rw [h1, h2, h3]
set_option maxHeartbeats 400000 in
theorem item_esc (p : ByteArray) (i : Nat) (w : World) (hp : p.size ≤ 1000000000) (h : i + 1 < p.size) (e : p[i].toNat = 92) :
    Calls Try.prog 29 #[.string p, .int .i64 i] w fun e w' => e = .returned (.tuple #[.int .u8 p[i + 1].toNat, .int .u8 p[i + 1].toNat, .int .i64 ((i : Int) + 2)]) ∧ ∃ m, w' = w.drewN m := by
  have hi : i < p.size := by omega
  have HC := hid_of (literal_esc p i w hp h e)
  go_enter Try.func29, Try.ntmps29
  go_wp2_with fail
  refine HC.out.mono ?_
  rintro e w1 ⟨rfl, rfl⟩
  go_wp2
  go_ret3
  exact ⟨rfl, drew_zero _⟩
set_option maxHeartbeats 400000 in
theorem item_one (p : ByteArray) (i : Nat) (w : World) (hp : p.size ≤ 1000000000) (h : i < p.size) (e : ¬ (p[i].toNat = 92 ∧ i + 1 < p.size)) (e3 : ∀ h : i + 2 < p.size, p[i + 1].toNat ≠ 45) :
    Calls Try.prog 29 #[.string p, .int .i64 i] w fun e w' => e = .returned (.tuple #[.int .u8 p[i].toNat, .int .u8 p[i].toNat, .int .i64 ((i : Int) + 1)]) ∧ ∃ m, w' = w.drewN m := by
  have HC := hid_of (literal_one p i w hp h e)
  by_cases e1 : p[i].toNat = 92
  · clear e e3
    have ht : ((p[i].toNat : Int) != 92) = false := by rw [e1]; rfl
    go_enter Try.func29, Try.ntmps29
    go_wp2_with fail
    refine HC.out.mono ?_
    rintro e w1 ⟨rfl, rfl⟩
    go_wp2
    go_ret3
    exact ⟨ret_cci (by simp [e1]) (by simp [e1]) rfl, drew_zero _⟩
  · clear e
    have ht : ((p[i].toNat : Int) != 92) = true := by simp; omega
    by_cases h2 : i + 2 < p.size
    · have e4 := e3 h2
      have ht3 : ((p[i + 1].toNat : Int) == 45) = false := by simp; omega
      have hi1 : i + 1 < p.size := by omega
      clear e3
      go_enter Try.func29, Try.ntmps29
      go_wp2_with fail
      refine HC.out.mono ?_
      rintro e w1 ⟨rfl, rfl⟩
      go_wp2
      go_ret3
      exact ⟨rfl, drew_zero _⟩
    · clear e3
      have ht2 : decide ((i : Int) + 2 < p.size) = false := by simp; omega
      go_enter Try.func29, Try.ntmps29
      go_wp2_with fail
      refine HC.out.mono ?_
      rintro e w1 ⟨rfl, rfl⟩
      go_wp2
      go_ret3
      exact ⟨rfl, drew_zero _⟩
set_option maxHeartbeats 400000 in
theorem item_range (p : ByteArray) (i : Nat) (w : World) (hp : p.size ≤ 1000000000) (h : i + 2 < p.size) (e : p[i].toNat ≠ 92) (e3 : p[i + 1].toNat = 45) :
    Calls Try.prog 29 #[.string p, .int .i64 i] w fun e w' => e = .returned (.tuple #[.int .u8 (min p[i].toNat p[i + 2].toNat : Nat), .int .u8 (max p[i].toNat p[i + 2].toNat : Nat), .int .i64 ((i : Int) + 3)]) ∧ ∃ m, w' = w.drewN m := by
  have hi : i < p.size := by omega
  have hi1 : i + 1 < p.size := by omega
  have h2 : (i : Int) + 2 < (p.size : Int) := by omega
  have hw : IntKind.i64.wrap ((i : Int) + 2) = (i : Int) + 2 := IntWalk.i64_in _ (by omega)
  have hx := index_at p (i + 2) h ((i : Int) + 2) (by omega)
  go_enter Try.func29, Try.ntmps29
  go_wp2
  go_quiet (fail)
  go_wp2
  all_goals go_ret3
  all_goals exact ⟨ret_cci (by omega) (by omega) rfl, nq, rfl⟩

theorem one_byte (a c : Nat) : (decide (a ≤ c) && decide (c ≤ a)) = (a == c) := by
  by_cases h : a = c
  · subst h; simp
  · rw [beq_false_of_ne h, Bool.and_eq_false_iff, decide_eq_false_iff_not, decide_eq_false_iff_not]; omega
/-- The item at k, which is no closing mark: it ends at nx and names the bytes from lo to hi. -/
theorem item_any (p : ByteArray) (k : Nat) (hp : p.size ≤ 1000000000) (h : k < p.size) (e : p[k].toNat ≠ 93) :
    ∃ lo hi nx : Nat, k < nx ∧ nx ≤ p.size ∧ CL p k = CL p nx ∧ (∀ c, CN p c k = ((decide (lo ≤ c) && decide (c ≤ hi)) || CN p c nx)) ∧
      ∀ w, Calls Try.prog 29 #[.string p, .int .i64 k] w fun e w' => e = .returned (.tuple #[.int .u8 lo, .int .u8 hi, .int .i64 nx]) ∧ ∃ m, w' = w.drewN m := by
  by_cases h1 : p[k].toNat = 92 ∧ k + 1 < p.size
  · refine ⟨p[k + 1].toNat, p[k + 1].toNat, k + 2, by omega, by omega, CL_esc h1.2 h1.1, fun c => by rw [CN_esc c h1.2 h1.1, one_byte], fun w => (item_esc p k w hp h1.2 h1.1).mono ?_⟩
    rintro e w' ⟨rfl, hm⟩; exact ⟨rfl, hm⟩
  · by_cases h2 : ∃ h : k + 2 < p.size, p[k + 1].toNat = 45
    · obtain ⟨h2, h3⟩ := h2
      have h4 : p[k].toNat ≠ 92 := fun x => h1 ⟨x, by omega⟩
      refine ⟨min p[k].toNat p[k + 2].toNat, max p[k].toNat p[k + 2].toNat, k + 3, by omega, by omega, CL_range h2 h4 e h3, fun c => CN_range c h2 h4 e h3, fun w => (item_range p k w hp h2 h4 h3).mono ?_⟩
      rintro e w' ⟨rfl, hm⟩; exact ⟨rfl, hm⟩
    · have h3 : ∀ h : k + 2 < p.size, p[k + 1].toNat ≠ 45 := fun x y => h2 ⟨x, y⟩
      refine ⟨p[k].toNat, p[k].toNat, k + 1, by omega, by omega, CL_one h h1 e h3, fun c => by rw [CN_one c h h1 e h3, one_byte], fun w => (item_one p k w hp h h1 h3).mono ?_⟩
      rintro e w' ⟨rfl, hm⟩; exact ⟨rfl, hm⟩

/-! ### classTakes -/
theorem hat_cases (p : ByteArray) (i : Nat) (hi : i ≤ p.size) : (∃ h : i < p.size, ((p[i].toNat : Int) == 94) = true ∧ Hid (HT p i = 1)) ∨ (∃ h : i < p.size, ((p[i].toNat : Int) == 94) = false ∧ Hid (HT p i = 0)) ∨ (¬ i < p.size ∧ Hid (HT p i = 0)) := by
  by_cases h : i < p.size
  · by_cases e : p[i].toNat = 94
    · exact Or.inl ⟨h, by rw [e]; rfl, HT_yes h e⟩
    · exact Or.inr (Or.inl ⟨h, by simp; omega, HT_no h e⟩)
  · exact Or.inr (Or.inr ⟨h, HT_end (by omega)⟩)
theorem nam_next {p : ByteArray} {c k lo hi nx : Nat} {y y' T : Bool} (hN : Hid (∀ c, CN p c k = ((decide (lo ≤ c) && decide (c ≤ hi)) || CN p c nx))) (H : Hid ((y || CN p c k) = T)) (hy : y' = (y || (decide (lo ≤ c) && decide (c ≤ hi)))) : Hid ((y' || CN p c nx) = T) := by
  show _ = _
  rw [hy, ← H.out, hN.out c, Bool.or_assoc]
theorem hat_room {p : ByteArray} {i : Nat} (hi : i ≤ p.size) : i + HT p i ≤ p.size := by
  have := hat_le ((bs p).drop i)
  rw [drop_len] at this
  unfold HT; omega
set_option maxHeartbeats 2000000 in
theorem takes_any (p : ByteArray) (i c : Nat) (w : World) (hp : p.size ≤ 1000000000) (hi : i ≤ p.size) (hc : c < 256) :
    Calls Try.prog 27 #[.string p, .int .i64 i, .int .u8 c] w fun e w' => e = .returned (.tuple #[.int .i64 (KE p i), .bool (KT p c i)]) ∧ ∃ m, w' = w.drewN m := by
  have hR := hid_of (hat_room hi)
  rcases hat_cases p i hi with ⟨h, ht, hH⟩ | ⟨h, ht, hH⟩ | ⟨ht, hH⟩
  all_goals
    go_enter Try.func27, Try.ntmps27
    go_wp2
    go_loopg [1, 9] (p.size - i) (fun g s1 s9 wx => ∃ (k : Nat) (y : Bool), k ≤ p.size ∧ p.size ≤ k + g ∧ s1 = .int .i64 k ∧ s9 = .bool y ∧ Hid ((y || CN p c k) = CN p c (i + HT p i)) ∧ Hid (CL p k = CL p (i + HT p i)) ∧ ∃ m, wx = w.drewN m)
    case atStart => exact ⟨i + HT p i, false, hR.out, by omega, val_i (by have := hH.out; omega), rfl, rfl, rfl, drew_zero _⟩
    case round =>
      clear ht
      obtain ⟨k, y, hk, hg, rfl, rfl, HN, HL, m, rfl⟩ := hrel
      by_cases hlt : k < p.size
      · by_cases h93 : p[k].toNat = 93
        · have ht : ((p[k].toNat : Int) != 93) = false := by rw [h93]; rfl
          have HE := hid_of (CL_shut hlt h93)
          have HM := hid_of (CN_shut c hlt h93)
          clear h93
          go_wp2
          go_ret2
          exact ⟨ret_ib (by unfold KE; rw [← HL.out, HE.out]; rfl) (by unfold KT; rw [← HN.out, HM.out, hH.out]; simp), m, rfl⟩
        · obtain ⟨lo, hi', nx, n1, n2, n3, n4, hC⟩ := item_any p k hp hlt h93
          have ht : ((p[k].toNat : Int) != 93) = true := by simp; omega
          have N3 := hid_of n3
          have N4 := hid_of n4
          have HC := hid_of hC
          clear h93 n3 n4 hC
          obtain ⟨g', rfl⟩ : ∃ g', gk = g' + 1 := ⟨gk - 1, by omega⟩
          cases y with
          | true =>
            go_wp2_with (go_at_call 29; refine (HC.out _).mono ?_; rintro e w1 ⟨rfl, m1, rfl⟩)
            go_roundg g'
            case measure => omega
            case rel => exact ⟨nx, true, n2, by omega, rfl, rfl, nam_next N4 HN rfl, by show _ = _; rw [← N3.out, HL.out], _, rfl⟩
          | false =>
            by_cases q1 : lo ≤ c
            · have t1 : decide ((lo : Int) ≤ c) = true := by simp; omega
              go_wp2_with (go_at_call 29; refine (HC.out _).mono ?_; rintro e w1 ⟨rfl, m1, rfl⟩)
              go_roundg g'
              case measure => omega
              case rel => exact ⟨nx, _, n2, by omega, rfl, rfl, nam_next N4 HN (by simp [q1]), by show _ = _; rw [← N3.out, HL.out], _, rfl⟩
            · have t1 : decide ((lo : Int) ≤ c) = false := by simp; omega
              go_wp2_with (go_at_call 29; refine (HC.out _).mono ?_; rintro e w1 ⟨rfl, m1, rfl⟩)
              go_roundg g'
              case measure => omega
              case rel => exact ⟨nx, _, n2, by omega, rfl, rfl, nam_next N4 HN (by simp [q1]), by show _ = _; rw [← N3.out, HL.out], _, rfl⟩
      · have HE := hid_of (CL_end (p := p) (i := k) (by omega))
        have HM := hid_of (CN_end (p := p) (i := k) c (by omega))
        go_wp2
        go_ret2
        exact ⟨ret_ib (by unfold KE; rw [← HL.out, HE.out]) (by unfold KT; rw [← HN.out, HM.out, hH.out]; simp), m, rfl⟩
end Go.Proofs.Ytaglcpjjekaohaa.Class
