/- spoil: all that a value's lists hold is written over, and more is laid behind. -/
import Derived.Test.YtdcnkdkhanmklabSpoilM
namespace Go.Proofs.Ytdcnkdkhanmklab.Spoil
open Go.RowKit Go.Maps
open Go.Proofs.Ytdcnkdkhanmklab.SetMath
open Go.Proofs.Ytdcnkdkhanmklab.ValueMath
open Go.Proofs.Ytdcnkdkhanmklab.Base
open Go.Proofs.Ytdcnkdkhanmklab.Vals
open Go.Proofs.Ytdcnkdkhanmklab.SpoilM
set_option linter.unusedVariables false
set_option linter.unusedSimpArgs false
def spt : Bs := [115, 112, 111, 105, 108, 116]
def bhd : Bs := [98, 101, 104, 105, 110, 100]
set_option maxHeartbeats 8000000 in
set_option maxRecDepth 100000 in
theorem spoil_raw (P : Nat → Prop) (W : World) (K : Value) (T : ByteArray) (k : Int) (a1 a2 a3 : Option Addr) (n1 n2 n3 c1 c2 c3 : Nat)
    (h : ∀ o, Sw P (W.alloc o) (.slice a1 n1 c1) (.slice a2 n2 c2) (.slice a3 n3 c3) n1 n2 n3 (W.alloc o)) (hP : ∀ j, P j → j < W.heap.size) (hb1 : n1 ≤ 4398046511104) (hb2 : n2 ≤ 4398046511104) (hb3 : n3 ≤ 4398046511104) :
    Calls Try.prog 6 #[.agg #[.int .i64 k, .string T, .slice a1 n1 c1, .slice a2 n2 c2, .slice a3 n3 c3]] W fun e w' => e = .returned (.tuple #[]) ∧ Fr P W w' := by
  obtain ⟨V, hV⟩ : ∃ V, V = W.alloc (.cells #[.int .i64 k, .string T, .slice a1 n1 c1, .slice a2 n2 c2, .slice a3 n3 c3] 26) := ⟨_, rfl⟩
  have S0 := hid_of (h (.cells #[.int .i64 k, .string T, .slice a1 n1 c1, .slice a2 n2 c2, .slice a3 n3 c3] 26))
  rw [← hV] at S0
  have HX : Hid (∀ w, Fr P V w → w.heap[W.heap.size]? = some (.cells #[.int .i64 k, .string T, .slice a1 n1 c1, .slice a2 n2 c2, .slice a3 n3 c3] 26 (0, 0))) := hid_of fun w hw => (hw.block _ (by rw [hV]; simp) (fun e => by have := hP _ e; omega)).trans (by rw [hV]; exact heap_alloc_new W _)
  have HF : Hid (∀ w, Fr P V w → Fr P W w) := hid_of fun w hw => (Fr.of_below (F := P) (show Below W.heap.size W V by rw [hV]; exact FRow.bnew W _)).trans (hw.mono fun j _ e => .inl e)
  have HV := hid_of hV
  clear h hV hP
  go_enter Try.func6, Try.ntmps6
  go_wp2_with fail
  rw [← HV.out]
  go_loopg [2] n1 (fun g s2 wx => ∃ i : Nat, i ≤ n1 ∧ n1 ≤ i + g ∧ s2 = .int .i64 (i : Int) ∧ Hid (Sw P V (.slice a1 n1 c1) (.slice a2 n2 c2) (.slice a3 n3 c3) n1 n2 n3 wx))
  case atStart => exact ⟨0, by omega, by omega, rfl, S0⟩
  case round =>
    clear S0
    obtain ⟨i, hi, hg, rfl, S⟩ := hrel
    obtain ⟨⟨q0, q1, q2, q3, q4⟩, _⟩ := box5 (HX.out _ S.out.fr)
    by_cases hin : i < n1
    · obtain ⟨g', rfl⟩ : ∃ g', gk = g' + 1 := ⟨gk - 1, by omega⟩
      have d1 : (i : Int) < (n1 : Int) := by omega
      obtain ⟨gg, e1, ⟨y, hy⟩, hz, hs⟩ := S.out.set1 hin
      subst e1
      have S2 := hid_of (hs spt)
      clear hs hin
      go_wp2_with fail
      go_roundg g'
      case measure => omega
      case rel => exact ⟨i + 1, by omega, by omega, by simp, S2⟩
    · have d1 : ¬ (i : Int) < (n1 : Int) := by omega
      clear hin
      go_wp2_with fail
      go_loopg [3] n2 (fun g s3 wx => ∃ i : Nat, i ≤ n2 ∧ n2 ≤ i + g ∧ s3 = .int .i64 (i : Int) ∧ Hid (Sw P V (.slice a1 n1 c1) (.slice a2 n2 c2) (.slice a3 n3 c3) n1 n2 n3 wx))
      case atStart => exact ⟨0, by omega, by omega, rfl, S⟩
      case round =>
        clear S q0 q1 q2 q3 q4 d1 hi hg
        obtain ⟨i2, hi, hg, rfl, S⟩ := hrel
        obtain ⟨⟨q0, q1, q2, q3, q4⟩, _⟩ := box5 (HX.out _ S.out.fr)
        by_cases hin : i2 < n2
        · obtain ⟨g', rfl⟩ : ∃ g', gk = g' + 1 := ⟨gk - 1, by omega⟩
          have d1 : (i2 : Int) < (n2 : Int) := by omega
          obtain ⟨gg, e1, ⟨y, hy⟩, ⟨y', hy'⟩, hz, hs⟩ := S.out.set2 hin
          subst e1
          have S2 := hid_of (hs (.string (mk spt)) (.string ⟨#[]⟩))
          have hz0 := hz (i2 * 2)
          have hz1 := hz (i2 * 2 + 1)
          clear hs hin hz
          go_wp2_with fail
          go_roundg g'
          case measure => omega
          case rel => exact ⟨i2 + 1, by omega, by omega, by simp, S2⟩
        · have d1 : ¬ (i2 : Int) < (n2 : Int) := by omega
          clear hin
          go_wp2_with fail
          go_loopg [4] n3 (fun g s4 wx => ∃ i : Nat, i ≤ n3 ∧ n3 ≤ i + g ∧ s4 = .int .i64 (i : Int) ∧ Hid (Sw P V (.slice a1 n1 c1) (.slice a2 n2 c2) (.slice a3 n3 c3) n1 n2 n3 wx))
          case atStart => exact ⟨0, by omega, by omega, rfl, S⟩
          case round =>
            clear S q0 q1 q2 q3 q4 d1 hi hg
            obtain ⟨i3, hi, hg, rfl, S⟩ := hrel
            obtain ⟨⟨q0, q1, q2, q3, q4⟩, _⟩ := box5 (HX.out _ S.out.fr)
            by_cases hin : i3 < n3
            · obtain ⟨g', rfl⟩ : ∃ g', gk = g' + 1 := ⟨gk - 1, by omega⟩
              have d1 : (i3 : Int) < (n3 : Int) := by omega
              obtain ⟨gg, e1, ⟨y, hy⟩, ⟨y', hy'⟩, hz, hs⟩ := S.out.set3 hin
              subst e1
              have S2 := hid_of (hs (.string ⟨#[]⟩) (.int .i64 78))
              have hz0 := hz (i3 * 2)
              have hz1 := hz (i3 * 2 + 1)
              clear hs hin hz
              go_wp2_with fail
              go_roundg g'
              case measure => omega
              case rel => exact ⟨i3 + 1, by omega, by omega, by simp, S2⟩
            · have d1 : ¬ (i3 : Int) < (n3 : Int) := by omega
              clear hin
              go_wp2_with fail
              go_region
              go_wp2_with fail
              go_loopg [5, 6, 7, 8] 9 (fun g s5 s6 s7 s8 wx => ∃ (j m1 m2 m3 : Nat) (b1 b2 b3 : Option Addr) (e1 e2 e3 : Nat), j ≤ 9 ∧ 9 ≤ j + g ∧ s8 = .int .i64 (j : Int) ∧ s5 = .slice b1 m1 e1 ∧ s6 = .slice b2 m2 e2 ∧ s7 = .slice b3 m3 e3 ∧ Hid (m1 ≤ n1 + j ∧ m2 ≤ n2 + j ∧ m3 ≤ n3 + j) ∧ Hid (Sw P V (.slice b1 m1 e1) (.slice b2 m2 e2) (.slice b3 m3 e3) m1 m2 m3 wx))
              case atStart => exact ⟨0, n1, n2, n3, a1, a2, a3, c1, c2, c3, by omega, by omega, rfl, rfl, rfl, rfl, hid_of ⟨by omega, by omega, by omega⟩, hid_of (S.out.fr' (Below.refl _ _).drew)⟩
              case round =>
                clear S q0 q1 q2 q3 q4 d1 hi hg
                obtain ⟨j, m1, m2, m3, b1, b2, b3, e1, e2, e3, hj, hg, rfl, rfl, rfl, rfl, HM, S⟩ := hrel
                by_cases hin : j < 9
                · obtain ⟨g', rfl⟩ : ∃ g', gk = g' + 1 := ⟨gk - 1, by omega⟩
                  have d1 : (j : Int) < 9 := by omega
                  have d2 : decide ((j : Int) < 9) = true := decide_eq_true d1
                  obtain ⟨x1, y1, w1, r1, S1⟩ := sw_app1 S.out bhd (by have := HM.out.1; omega)
                  have z1 := hid_of S1
                  obtain ⟨x2, y2, w2, r2, S2⟩ := sw_app2 S1 bhd [] (by have := HM.out.2.1; unfold FRow.big; omega)
                  obtain ⟨x3, y3, w3, r3, S3⟩ := sw_app3 S2 [] 79 (by have := HM.out.2.2; unfold ERow.big; omega)
                  have Z3 := hid_of S3
                  have HM2 : Hid (m1 + 1 ≤ n1 + (j + 1) ∧ m2 + 1 ≤ n2 + (j + 1) ∧ m3 + 1 ≤ n3 + (j + 1)) := hid_of (by have := HM.out; omega)
                  clear S1 S2 S3 hin HM z1
                  go_wp2_with (first
                    | (at_builtin; refine wpl_eq rfl _ _ 22 22 rfl (.slice b1 m1 e1) (.slice (some ⟨wr.heap.size, 0, none⟩) 1 1) (.slice x1 (m1 + 1) y1) _ w1 rfl rfl r1 ?_)
                    | (at_builtin; refine wpl_eq rfl _ _ 23 23 rfl (.slice b2 m2 e2) (.slice (some ⟨w1.heap.size, 0, none⟩) 1 1) (.slice x2 (m2 + 1) y2) _ w2 rfl rfl r2 ?_)
                    | (at_builtin; refine wpl_eq rfl _ _ 24 24 rfl (.slice b3 m3 e3) (.slice (some ⟨w2.heap.size, 0, none⟩) 1 1) (.slice x3 (m3 + 1) y3) _ w3 rfl rfl r3 ?_))
                  go_roundg g'
                  case measure => omega
                  case rel => exact ⟨j + 1, m1 + 1, m2 + 1, m3 + 1, x1, x2, x3, y1, y2, y3, by omega, by omega, by simp, rfl, rfl, rfl, HM2, Z3⟩
                · have d1 : ¬ (j : Int) < 9 := by omega
                  have d2 : decide ((j : Int) < 9) = false := decide_eq_false d1
                  clear hin
                  go_wp2_with fail
                  exact ⟨rfl, .tuple #[], by simp [results, Try.results6, go_sem], rfl, HF.out _ S.out.fr⟩
end Go.Proofs.Ytdcnkdkhanmklab.Spoil
