/- The document's own count, and the answer that is wrong. -/
import Derived.Test.YtfkilbhhpipjbaaGreatDoorRefLine
namespace Go.Proofs.YtfkilbhhpipjbaaGreatDoor.RefCount
open Go.RowKit
open Go.Lib (decDigits)
open Go.Proofs.YtfkilbhhpipjbaaGreatDoor.TextMath
open Go.Proofs.YtfkilbhhpipjbaaGreatDoor.ReqMath
open Go.Proofs.YtfkilbhhpipjbaaGreatDoor.Base
open Go.Proofs.YtfkilbhhpipjbaaGreatDoor.Small
open Go.Proofs.YtfkilbhhpipjbaaGreatDoor.Quoted
open Go.Proofs.YtfkilbhhpipjbaaGreatDoor.RefPart
open Go.Proofs.YtfkilbhhpipjbaaGreatDoor.RefLine
set_option linter.unusedVariables false

theorem canon_of {most n : Nat} {d : List UInt8} (h : countS most d = some n) : Canon d ∧ valOn 0 d = n ∧ n ≤ most := by
  obtain ⟨h1, h2⟩ := count_some h
  subst h1
  exact ⟨canon_dec n, val_dec n, h2⟩
theorem not_some {most : Nat} {d : List UInt8} (h : ∀ n, countS most d ≠ some n) : countS most d = none := by
  cases hc : countS most d with
  | none => rfl
  | some n => exact absurd hc (h n)
theorem count_nil (most : Nat) : countS most [] = none := not_some fun n h => (canon_of h).1.1 rfl
theorem count_zero {most : Nat} {t : List UInt8} (ht : t ≠ []) : countS most (48 :: t) = none := not_some fun n h => by
  have := (canon_of h).1.2.2 rfl
  cases t with
  | nil => exact ht rfl
  | cons a b => simp at this
structure NI (d : List UInt8) (most k n : Nat) : Prop where
  len : k ≤ d.length
  dig : (d.take k).all digB = true
  val : valOn 0 (d.take k) = n
  le : n ≤ most
theorem take_snoc {d : List UInt8} {k : Nat} {c : UInt8} (hc : d[k]? = some c) : d.take (k + 1) = d.take k ++ [c] := by
  rw [List.take_add_one, hc]
  rfl
theorem val_split (d : List UInt8) (k : Nat) : valOn (valOn 0 (d.take k)) (d.drop k) = valOn 0 d := by
  unfold valOn
  rw [← List.foldl_append, List.take_append_drop]
theorem val_up (d : List UInt8) (k : Nat) : valOn 0 (d.take k) ≤ valOn 0 d := by
  rw [← val_split d k]
  exact Nat.le_trans (Nat.le_mul_of_pos_right _ (Nat.pow_pos (by decide))) (val_ge (d.drop k) _)
theorem NI.start (d : List UInt8) (most : Nat) : NI d most 0 0 := ⟨Nat.zero_le _, rfl, rfl, Nat.zero_le _⟩
theorem NI.bad {d : List UInt8} {most k n : Nat} {c : UInt8} (h : NI d most k n) (hc : d[k]? = some c) (hd : digB c = false) : countS most d = none := not_some fun m hm => by
  have hall := (canon_of hm).1.2.1
  have := List.all_eq_true.1 hall c (List.mem_of_getElem? hc)
  rw [hd] at this
  cases this
theorem NI.over {d : List UInt8} {most k n : Nat} {c : UInt8} (h : NI d most k n) (hc : d[k]? = some c) (ho : most < 10 * n + (c.toNat - 48)) : countS most d = none := not_some fun m hm => by
  obtain ⟨_, q2, q3⟩ := canon_of hm
  have h1 := val_up d (k + 1)
  rw [take_snoc hc, valOn_snoc, h.val] at h1
  omega
theorem NI.step {d : List UInt8} {most k n : Nat} {c : UInt8} (h : NI d most k n) (hc : d[k]? = some c) (hd : digB c = true) (ho : 10 * n + (c.toNat - 48) ≤ most) : NI d most (k + 1) (10 * n + (c.toNat - 48)) := by
  refine ⟨(List.getElem?_eq_some_iff.1 hc).1, ?_, ?_, ho⟩
  · rw [take_snoc hc, List.all_append, h.dig]
    simp [hd]
  · rw [take_snoc hc, valOn_snoc, h.val]
theorem NI.done {d : List UInt8} {most n : Nat} (h : NI d most d.length n) (hne : d ≠ []) (hz : d.headD 0 = 48 → d.length = 1) : countS most d = some n := by
  have h1 := h.dig
  have h2 := h.val
  rw [List.take_length] at h1 h2
  have hc : Canon d := ⟨hne, h1, hz⟩
  unfold countS
  rw [dec_val d.length d rfl hc, h2, if_pos ⟨rfl, h.le⟩]
def countE : Option Nat → Ending
  | none => .returned (.tuple #[.int .i64 0, .bool false])
  | some n => .returned (.tuple #[.int .i64 (n : Int), .bool true])
set_option maxHeartbeats 4000000 in
set_option maxRecDepth 100000 in
theorem rcount_call (s : ByteArray) (most : Nat) (hz : s.size ≤ 67108864) (hm : most ≤ 1048576) (w : World) :
    Calls Tryz.prog 57 #[.string s, .int .i64 (most : Int)] w fun e w' => e = countE (countS most (bs s)) ∧ w' = w := by
  have hsl : (bs s).length = s.size := len_bs s
  by_cases h0 : s.size = 0
  · have hb : bs s = [] := List.length_eq_zero_iff.1 (by omega)
    have he : s.toList.isEmpty = true := by rw [Lib.toList_data]; show (bs s).isEmpty = true; rw [hb]; rfl
    rw [hb, count_nil]
    clear hsl h0 hb
    go_enter Tryz.func57, Tryz.ntmps57
    go_wp2_with fail
    go_ret2
    exact ⟨rfl, rfl⟩
  · obtain ⟨c0, hc0⟩ : ∃ c, (bs s)[0]? = some c := ⟨_, get_bs s 0 (by omega)⟩
    have hix0 := index_at s 0 c0 hc0 0 rfl
    have hbs : bs s = c0 :: (bs s).drop 1 := by
      obtain ⟨h2, h3⟩ := List.getElem?_eq_some_iff.1 hc0
      have := List.drop_eq_getElem_cons h2
      rw [List.drop_zero, h3] at this
      exact this
    have he : s.toList.isEmpty = false := by rw [Lib.toList_data]; show (bs s).isEmpty = false; rw [hbs]; rfl
    by_cases hzero : c0 = 48 ∧ 1 < s.size
    · obtain ⟨rfl, h1⟩ := hzero
      have HE : Hid (countS most (bs s) = none) := by
        rw [hbs]
        exact count_zero (fun e => by
          have hl : ((bs s).drop 1).length = s.size - 1 := by rw [List.length_drop, hsl]
          rw [e] at hl
          simp at hl
          omega)
      have g1 : (1 : Int) < (s.size : Int) := by omega
      clear hbs hc0 h0
      go_enter Tryz.func57, Tryz.ntmps57
      go_wp2_with fail
      go_ret2
      rw [HE.out]
      exact ⟨rfl, rfl⟩
    · have HZ : Hid ((bs s).headD 0 = 48 → (bs s).length = 1) := by
        intro e
        rw [hbs] at e
        by_cases h1 : 1 < s.size
        · exact absurd ⟨e, h1⟩ hzero
        · omega
      have HNE : Hid (bs s ≠ []) := by rw [hbs]; exact fun e => by cases e
      have gz : (1 : Int) < (s.size : Int) → ((c0.toNat : Int) == 48) = false := fun h1 => ne_int (d := 48) (fun e => hzero ⟨e, by omega⟩)
      have HW : Hid (∀ (n : Nat), n ≤ most → ∀ (c : UInt8), digB c = true → IntKind.i64.wrap (10 * (n : Int)) = 10 * (n : Int) ∧ IntKind.u8.wrap ((c.toNat : Int) - 48) = ((c.toNat - 48 : Nat) : Int) ∧ IntKind.i64.wrap ((c.toNat - 48 : Nat) : Int) = ((c.toNat - 48 : Nat) : Int) ∧ IntKind.i64.wrap (10 * (n : Int) + ((c.toNat - 48 : Nat) : Int)) = ((10 * n + (c.toNat - 48) : Nat) : Int)) := by
        intro n hn c hc
        obtain ⟨q1, q2⟩ := (digB_iff c).1 hc
        refine ⟨IntWalk.i64_in _ (by omega), ?_, IntWalk.i64_in _ (by omega), ?_⟩
        · rw [show (c.toNat : Int) - 48 = ((c.toNat - 48 : Nat) : Int) from by omega]
          exact IntWalk.u8_in _ (by omega)
        · rw [IntWalk.i64_in _ (by omega)]; omega
      clear hzero hbs
      by_cases h1 : 1 < s.size
      · have g1 : (1 : Int) < (s.size : Int) := by omega
        have e48 := gz g1
        clear gz
        go_enter Tryz.func57, Tryz.ntmps57
        go_wp2_with fail
        go_loopg [7, 6] s.size (fun g si sn wx => ∃ k n : Nat, k ≤ s.size ∧ s.size ≤ k + g ∧ si = .int .i64 k ∧ sn = .int .i64 n ∧ Hid (NI (bs s) most k n) ∧ wx = w)
        case atStart => exact ⟨0, 0, by omega, by omega, rfl, rfl, NI.start _ _, rfl⟩
        case round =>
          obtain ⟨k, n, hk, hg, rfl, rfl, HN, hwx⟩ := hrel
          subst hwx
          by_cases hlt : k < s.size
          · obtain ⟨g', rfl⟩ : ∃ g', gk = g' + 1 := ⟨gk - 1, by omega⟩
            obtain ⟨c, hc⟩ : ∃ c, (bs s)[k]? = some c := ⟨_, get_bs s k hlt⟩
            have hix := index_at s k c hc (k : Int) rfl
            have ew : IntKind.i64.wrap ((k : Int) + 1) = (k : Int) + 1 := IntWalk.i64_in _ (by omega)
            have gi : (k : Int) < (s.size : Int) := by omega
            cases hd : digB c with
            | false =>
              have HE := hid_of (HN.out.bad hc hd)
              have hnd : ¬ (48 ≤ c.toNat ∧ c.toNat ≤ 57) := fun q => by rw [(digB_iff c).2 q] at hd; cases hd
              by_cases h48 : c.toNat < 48
              · have q1 : (c.toNat : Int) < 48 := by omega
                clear hd hc hnd
                go_wp2_with fail
                go_ret2
                rw [HE.out]
                exact ⟨rfl, rfl⟩
              · have q1 : ¬ (c.toNat : Int) < 48 := by omega
                have q2 : (57 : Int) < (c.toNat : Int) := by omega
                clear hd hc hnd
                go_wp2_with fail
                go_ret2
                rw [HE.out]
                exact ⟨rfl, rfl⟩
            | true =>
              obtain ⟨d1, d2⟩ := (digB_iff c).1 hd
              have q1 : ¬ (c.toNat : Int) < 48 := by omega
              have q2 : ¬ (57 : Int) < (c.toNat : Int) := by omega
              obtain ⟨e1, e2, e3, e4⟩ := HW.out n HN.out.le c hd
              obtain ⟨m, hmd⟩ : ∃ m : Nat, m = c.toNat - 48 := ⟨_, rfl⟩
              obtain ⟨N, hNd⟩ : ∃ N : Nat, N = 10 * n + (c.toNat - 48) := ⟨_, rfl⟩
              rw [← hNd] at e4
              rw [← hmd] at e2 e3 e4
              by_cases ho : most < N
              · have gN : (most : Int) < (N : Int) := by omega
                have HE := hid_of (HN.out.over hc (by omega))
                clear hd hc hmd hNd d1 d2 ho
                go_wp2_with fail
                go_ret2
                rw [HE.out]
                exact ⟨rfl, rfl⟩
              · have gN : ¬ (most : Int) < (N : Int) := by omega
                have HS := hid_of (HN.out.step hc hd (by omega))
                rw [← hNd] at HS
                clear hd hc hmd hNd d1 d2 ho
                go_wp2_with fail
                go_roundg g'
                case measure => omega
                case rel => exact ⟨k + 1, N, by omega, by omega, by rw [show ((k + 1 : Nat) : Int) = (k : Int) + 1 from by omega], rfl, HS, rfl⟩
          · obtain rfl : k = s.size := by omega
            have gi : ¬ (s.size : Int) < (s.size : Int) := by omega
            have hN2 := HN.out
            rw [← hsl] at hN2
            have HE := hid_of (hN2.done HNE.out HZ.out)
            clear hN2
            go_wp2_with fail
            go_ret2
            rw [HE.out]
            exact ⟨rfl, rfl⟩
      · have g1 : ¬ (1 : Int) < (s.size : Int) := by omega
        clear gz
        go_enter Tryz.func57, Tryz.ntmps57
        go_wp2_with fail
        go_loopg [7, 6] s.size (fun g si sn wx => ∃ k n : Nat, k ≤ s.size ∧ s.size ≤ k + g ∧ si = .int .i64 k ∧ sn = .int .i64 n ∧ Hid (NI (bs s) most k n) ∧ wx = w)
        case atStart => exact ⟨0, 0, by omega, by omega, rfl, rfl, NI.start _ _, rfl⟩
        case round =>
          obtain ⟨k, n, hk, hg, rfl, rfl, HN, hwx⟩ := hrel
          subst hwx
          by_cases hlt : k < s.size
          · obtain ⟨g', rfl⟩ : ∃ g', gk = g' + 1 := ⟨gk - 1, by omega⟩
            obtain ⟨c, hc⟩ : ∃ c, (bs s)[k]? = some c := ⟨_, get_bs s k hlt⟩
            have hix := index_at s k c hc (k : Int) rfl
            have ew : IntKind.i64.wrap ((k : Int) + 1) = (k : Int) + 1 := IntWalk.i64_in _ (by omega)
            have gi : (k : Int) < (s.size : Int) := by omega
            cases hd : digB c with
            | false =>
              have HE := hid_of (HN.out.bad hc hd)
              have hnd : ¬ (48 ≤ c.toNat ∧ c.toNat ≤ 57) := fun q => by rw [(digB_iff c).2 q] at hd; cases hd
              by_cases h48 : c.toNat < 48
              · have q1 : (c.toNat : Int) < 48 := by omega
                clear hd hc hnd
                go_wp2_with fail
                go_ret2
                rw [HE.out]
                exact ⟨rfl, rfl⟩
              · have q1 : ¬ (c.toNat : Int) < 48 := by omega
                have q2 : (57 : Int) < (c.toNat : Int) := by omega
                clear hd hc hnd
                go_wp2_with fail
                go_ret2
                rw [HE.out]
                exact ⟨rfl, rfl⟩
            | true =>
              obtain ⟨d1, d2⟩ := (digB_iff c).1 hd
              have q1 : ¬ (c.toNat : Int) < 48 := by omega
              have q2 : ¬ (57 : Int) < (c.toNat : Int) := by omega
              obtain ⟨e1, e2, e3, e4⟩ := HW.out n HN.out.le c hd
              obtain ⟨m, hmd⟩ : ∃ m : Nat, m = c.toNat - 48 := ⟨_, rfl⟩
              obtain ⟨N, hNd⟩ : ∃ N : Nat, N = 10 * n + (c.toNat - 48) := ⟨_, rfl⟩
              rw [← hNd] at e4
              rw [← hmd] at e2 e3 e4
              by_cases ho : most < N
              · have gN : (most : Int) < (N : Int) := by omega
                have HE := hid_of (HN.out.over hc (by omega))
                clear hd hc hmd hNd d1 d2 ho
                go_wp2_with fail
                go_ret2
                rw [HE.out]
                exact ⟨rfl, rfl⟩
              · have gN : ¬ (most : Int) < (N : Int) := by omega
                have HS := hid_of (HN.out.step hc hd (by omega))
                rw [← hNd] at HS
                clear hd hc hmd hNd d1 d2 ho
                go_wp2_with fail
                go_roundg g'
                case measure => omega
                case rel => exact ⟨k + 1, N, by omega, by omega, by rw [show ((k + 1 : Nat) : Int) = (k : Int) + 1 from by omega], rfl, HS, rfl⟩
          · obtain rfl : k = s.size := by omega
            have gi : ¬ (s.size : Int) < (s.size : Int) := by omega
            have hN2 := HN.out
            rw [← hsl] at hN2
            have HE := hid_of (hN2.done HNE.out HZ.out)
            clear hN2
            go_wp2_with fail
            go_ret2
            rw [HE.out]
            exact ⟨rfl, rfl⟩
end Go.Proofs.YtfkilbhhpipjbaaGreatDoor.RefCount
