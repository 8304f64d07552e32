/- The contract of the document's own class. -/
import Derived.Test.YtaglcpjjekaohaaPiece
namespace Go.Proofs.Ytaglcpjjekaohaa.RefClass
open Go.RowKit
open Go.Proofs.Ytaglcpjjekaohaa.Math
open Go.Proofs.Ytaglcpjjekaohaa.Class
open Go.Proofs.Ytaglcpjjekaohaa.Piece
set_option linter.unusedVariables false

theorem nam_esc {p : ByteArray} {c k : Nat} {y y' T : Bool} {x : Nat} {nx : Nat} (hN : Hid (CN p c k = ((x == c) || CN p c nx))) (H : Hid ((y || CN p c k) = T)) (hy : y' = (y || (x == c))) : Hid ((y' || CN p c nx) = T) := by
  show _ = _
  rw [hy, ← H.out, hN.out, Bool.or_assoc]

theorem nam_rng {p : ByteArray} {c k lo hi nx : Nat} {y y' T : Bool} (hN : Hid (CN p c k = ((decide (lo ≤ c) && decide (c ≤ hi)) || CN p c nx))) (H : Hid ((y || CN p c k) = T)) (hy : y' = (y || (decide (lo ≤ c) && decide (c ≤ hi)))) : Hid ((y' || CN p c nx) = T) := by
  show _ = _
  rw [hy, ← H.out, hN.out, Bool.or_assoc]
theorem low_of (a b : Nat) : (if b < a then (b : Int) else (a : Int)) = ((min a b : Nat) : Int) := by split <;> omega
theorem high_of (a b : Nat) : (if a < b then (b : Int) else (a : Int)) = ((max a b : Nat) : Int) := by split <;> omega
theorem one_cases {p : ByteArray} {k : Nat} (hlt : k < p.size) (h92 : ¬ (p[k].toNat = 92 ∧ k + 1 < p.size)) (h3 : ∀ h : k + 2 < p.size, p[k + 1].toNat ≠ 45) :
    (((p[k].toNat : Int) == 92) = true ∧ k + 1 = p.size) ∨ (((p[k].toNat : Int) == 92) = false ∧ ∃ h : k + 2 < p.size, ((p[k + 1].toNat : Int) == 45) = false) ∨ (((p[k].toNat : Int) == 92) = false ∧ ¬ k + 2 < p.size) := by
  by_cases e : p[k].toNat = 92
  · exact Or.inl ⟨by rw [e]; rfl, by omega⟩
  · have e' : ((p[k].toNat : Int) == 92) = false := by simp; omega
    by_cases h : k + 2 < p.size
    · have := h3 h
      exact Or.inr (Or.inl ⟨e', h, by simp; omega⟩)
    · exact Or.inr (Or.inr ⟨e', h⟩)

set_option maxRecDepth 100000 in
set_option maxHeartbeats 2000000 in
theorem rclass_any (p : ByteArray) (i c : Nat) (w : World) (hp : p.size ≤ 1000000000) (hi : i ≤ p.size) (hc : c < 256) :
    Calls Try.prog 20 #[.string p, .int .i64 i, .int .u8 c] w fun e w' => e = .returned (.tuple #[.bool (KT p c i), .int .i64 (KE p i)]) ∧ ∃ m, w' = w.drewN m := by
  have hR := hid_of (hat_room hi)
  rcases hat_cases p i hi with ⟨h, ht, hH⟩ | ⟨h, ht, hH⟩ | ⟨ht, hH⟩
  all_goals
    go_enter Try.func20, Try.ntmps20
    go_wp2
    go_loopg [1, 9] (p.size - i) (fun g s1 s9 wx => ∃ (k : Nat) (y : Bool), k ≤ p.size ∧ p.size ≤ k + g ∧ s1 = .int .i64 k ∧ s9 = .bool y ∧ Hid ((y || CN p c k) = CN p c (i + HT p i)) ∧ Hid (CL p k = CL p (i + HT p i)) ∧ ∃ m, wx = w.drewN m)
    case atStart => exact ⟨i + HT p i, false, hR.out, by omega, val_i (by have := hH.out; omega), rfl, rfl, rfl, drew_zero _⟩
    case round =>
      clear ht
      obtain ⟨k, y, hk, hg, rfl, rfl, HN, HL, m, rfl⟩ := hrel
      by_cases hlt : k < p.size
      · by_cases h92 : p[k].toNat = 92 ∧ k + 1 < p.size
        · obtain ⟨h92, hk1⟩ := h92
          have ht : ((p[k].toNat : Int) == 92) = true := by rw [h92]; rfl
          have N3 := hid_of (CL_esc hk1 h92)
          have N4 := hid_of (CN_esc c hk1 h92)
          clear h92
          obtain ⟨g', rfl⟩ : ∃ g', gk = g' + 1 := ⟨gk - 1, by omega⟩
          cases y with
          | true =>
            go_wp2
            go_roundg g'
            case measure => omega
            case rel => exact ⟨k + 2, true, by omega, by omega, rfl, rfl, nam_esc N4 HN rfl, by show _ = _; rw [← N3.out, HL.out], _, rfl⟩
          | false =>
            go_wp2
            go_roundg g'
            case measure => omega
            case rel => exact ⟨k + 2, _, by omega, by omega, rfl, rfl, nam_esc N4 HN (by rw [int_beq]; rfl), by show _ = _; rw [← N3.out, HL.out], _, rfl⟩
        · by_cases h93 : p[k].toNat = 93
          · have t1 : ((p[k].toNat : Int) == 92) = false := by rw [h93]; rfl
            have t2 : ((p[k].toNat : Int) == 93) = true := by rw [h93]; rfl
            have HE := hid_of (CL_shut hlt h93)
            have HM := hid_of (CN_shut c hlt h93)
            clear h93 h92
            go_wp2
            go_ret2
            exact ⟨ret_bi (by unfold KE; rw [← HL.out, HE.out]; rfl) (by unfold KT; rw [← HN.out, HM.out, hH.out]; simp), m, rfl⟩
          · have t2 : ((p[k].toNat : Int) == 93) = false := by simp; omega
            by_cases h3 : ∃ h : k + 2 < p.size, p[k + 1].toNat = 45
            · obtain ⟨hk2, h45⟩ := h3
              have h92' : p[k].toNat ≠ 92 := fun x => h92 ⟨x, by omega⟩
              have t1 : ((p[k].toNat : Int) == 92) = false := by simp; omega
              have t3 : ((p[k + 1].toNat : Int) == 45) = true := by rw [h45]; rfl
              have hk1 : k + 1 < p.size := by omega
              have N3 := hid_of (CL_range hk2 h92' h93 h45)
              have N4 := hid_of (CN_range c hk2 h92' h93 h45)
              have hw : IntKind.i64.wrap ((k : Int) + 2) = (k : Int) + 2 := IntWalk.i64_in _ (by omega)
              have hx := index_at p (k + 2) hk2 ((k : Int) + 2) (by omega)
              have hx0 := index_at p k hlt (k : Int) rfl
              obtain ⟨g', rfl⟩ : ∃ g', gk = g' + 1 := ⟨gk - 1, by omega⟩
              clear h92 h93 h45 h92'
              go_wp2
              go_quiet (fail)
              rw [low_of, high_of]
              obtain ⟨lo, hlo⟩ : ∃ lo, min p[k].toNat p[k + 2].toNat = lo := ⟨_, rfl⟩
              obtain ⟨hi', hhi⟩ : ∃ hi', max p[k].toNat p[k + 2].toNat = hi' := ⟨_, rfl⟩
              rw [hlo, hhi] at N4
              rw [hlo, hhi]
              clear hlo hhi hx hx0
              cases y with
              | true =>
                go_wp2
                go_roundg g'
                case measure => omega
                case rel => exact ⟨k + 3, true, by omega, by omega, rfl, rfl, nam_rng N4 HN rfl, by show _ = _; rw [← N3.out, HL.out], _, rfl⟩
              | false =>
                by_cases q1 : lo ≤ c
                · have t5 : decide ((lo : Int) ≤ c) = true := by simp; omega
                  go_wp2
                  go_roundg g'
                  case measure => omega
                  case rel => exact ⟨k + 3, _, by omega, by omega, rfl, rfl, nam_rng N4 HN (by simp [q1]), by show _ = _; rw [← N3.out, HL.out], _, rfl⟩
                · have t5 : decide ((lo : Int) ≤ c) = false := by simp; omega
                  go_wp2
                  go_roundg g'
                  case measure => omega
                  case rel => exact ⟨k + 3, _, by omega, by omega, rfl, rfl, nam_rng N4 HN (by simp [q1]), by show _ = _; rw [← N3.out, HL.out], _, rfl⟩
            · have h3' : ∀ h : k + 2 < p.size, p[k + 1].toNat ≠ 45 := fun x y => h3 ⟨x, y⟩
              have N3 := hid_of (CL_one hlt h92 h93 h3')
              have N4 := hid_of (CN_one c hlt h92 h93 h3')
              obtain ⟨g', rfl⟩ : ∃ g', gk = g' + 1 := ⟨gk - 1, by omega⟩
              rcases one_cases hlt h92 h3' with ⟨t1, hk1⟩ | ⟨t1, hk2, t3⟩ | ⟨t1, hk2⟩
              all_goals
                clear h92 h93 h3 h3'
                cases y with
                | true =>
                  go_wp2
                  go_roundg g'
                  case measure => omega
                  case rel => exact ⟨k + 1, true, by omega, by omega, rfl, rfl, nam_esc N4 HN rfl, by show _ = _; rw [← N3.out, HL.out], _, rfl⟩
                | false =>
                  go_wp2
                  go_roundg g'
                  case measure => omega
                  case rel => exact ⟨k + 1, _, by omega, by omega, rfl, rfl, nam_esc N4 HN (by rw [int_beq]; rfl), by show _ = _; rw [← N3.out, HL.out], _, rfl⟩
      · have HE := hid_of (CL_end (p := p) (i := k) (by omega))
        have HM := hid_of (CN_end (p := p) (i := k) c (by omega))
        go_wp2
        go_ret2
        exact ⟨ret_bi (by unfold KE; rw [← HL.out, HE.out]) (by unfold KT; rw [← HN.out, HM.out, hH.out]; simp), m, rfl⟩
end Go.Proofs.Ytaglcpjjekaohaa.RefClass
