/- The contracts of the document's own past and Match. -/
import Derived.Test.YtaglcpjjekaohaaRefClass
import Derived.Test.YtaglcpjjekaohaaRefMath
namespace Go.Proofs.Ytaglcpjjekaohaa.RefMatch
open Go.RowKit
open Go.Proofs.Ytaglcpjjekaohaa.Math
open Go.Proofs.Ytaglcpjjekaohaa.Class
open Go.Proofs.Ytaglcpjjekaohaa.Piece
open Go.Proofs.Ytaglcpjjekaohaa.RefMath
open Go.Proofs.Ytaglcpjjekaohaa.RefClass
set_option linter.unusedVariables false

set_option maxRecDepth 100000 in
set_option maxHeartbeats 2000000 in
theorem past_any (p : ByteArray) (B : Nat) (xs : List Bool) (w : World) (hp : p.size ≤ 1000000000) (hR : Row w B xs) (hl : xs.length = p.size + 1) :
    Calls Try.prog 19 #[.string p, .slice (some ⟨B, 0, none⟩) (p.size + 1) (p.size + 1)] w fun e w' => e = .returned (.tuple #[]) ∧ ∃ ys, Past p xs ys ∧ Row w' B ys ∧ w.grownBy w' (some B) := by
  go_enter Try.func19, Try.ntmps19
  go_wp2
  go_loopg [4] p.size (fun g s4 wx => ∃ (i : Nat) (ys : List Bool), i ≤ p.size ∧ p.size ≤ i + g ∧ s4 = .int .i64 i ∧ Hid (PastTo p xs ys i) ∧ Hid (Row wx B ys) ∧ Hid (w.grownBy wx (some B)))
  case atStart => exact ⟨0, xs, by omega, by omega, rfl, past_zero hl, hR, World.grownBy.refl _ _⟩
  case round =>
    clear hR
    obtain ⟨i, ys, hi, hg, rfl, HP, HR, HG⟩ := hrel
    by_cases hlt : i < p.size
    · obtain ⟨g', rfl⟩ : ∃ g', gk = g' + 1 := ⟨gk - 1, by omega⟩
      have hyl : ys.length = p.size + 1 := HP.out.1
      have hc := HR.out.cell i (by omega)
      cases hx : gt ys i with
      | false =>
        rw [hx] at hc
        have HN := hid_of (past_same HP.out (by rw [hx]; rfl))
        clear HP hx
        go_wp2
        go_roundg g'
        case measure => omega
        case rel => exact ⟨i + 1, ys, hlt, by omega, rfl, HN, HR, HG⟩
      | true =>
        rw [hx] at hc
        by_cases e : p[i].toNat = 42
        · have ht : ((p[i].toNat : Int) == 42) = true := by rw [e]; rfl
          have HN := hid_of (past_put hlt HP.out (by rw [hx, (star_iff hlt).2 e]; rfl))
          have hc1 := HR.out.cell (i + 1) (by omega)
          have hf1 := HR.out.frozen (i + 1)
          clear HP hx e
          go_wp2
          go_roundg g'
          case measure => omega
          case rel => exact ⟨i + 1, ys.set (i + 1) true, hlt, by omega, rfl, HN, HR.out.put _ _, kept_trans HG.out (kept_set _ _ _ _)⟩
        · have ht : ((p[i].toNat : Int) == 42) = false := by simp; omega
          have HN := hid_of (past_same HP.out (by rw [hx]; cases hs : star p i with | false => rfl | true => exact absurd ((star_iff hlt).1 hs) e))
          clear HP hx e
          go_wp2
          go_roundg g'
          case measure => omega
          case rel => exact ⟨i + 1, ys, hlt, by omega, rfl, HN, HR, HG⟩
    · have HN := hid_of (past_end HP.out (by omega))
      clear HP
      go_wp2
      go_end0
      exact ⟨rfl, ys, HN.out, HR.out, HG.out⟩

theorem info4 : (Try.prog.info? 4).map (fun i => (i.zero, i.size, i.bytes)) = some (some (.bool false), 1, 1) := by kernel_rfl
theorem ret_b {a b : Bool} (h : a = b) : Ending.returned (.bool a) = .returned (.bool b) := by rw [h]
/-- What holds between two bytes of the text. -/
def Mid (p s : ByteArray) (w : World) (k : Nat) (Ba : Nat) (xs : List Bool) (wx : World) : Prop :=
  xs.length = p.size + 1 ∧ Row wx Ba xs ∧ Closed p xs ∧ (MM p s 0 0 = true ↔ Some1 p s xs k) ∧ Below w.heap.size w wx ∧ w.heap.size ≤ Ba
theorem mid_start {p s : ByteArray} {w w0 w1 : World} {ys : List Bool} (hR : Row w0 w.heap.size (List.replicate (p.size + 1) false)) (hG0 : w.grownBy w0 none)
    (hP : Past p ((List.replicate (p.size + 1) false).set 0 true) ys) (hR1 : Row w1 w.heap.size ys) (hG : (w0.setCell ⟨w.heap.size, 0, none⟩ (.bool true)).grownBy w1 (some w.heap.size)) : Mid p s w 0 w.heap.size ys w1 :=
  ⟨hP.1, hR1, past_closed hP, by rw [← past_some hP, start_some], ((((Below.refl _ w).grown hG0 (Nat.le_refl _) (by simp)).setCell (Nat.le_refl _) _).grown hG (by have := hG0.size; simpa using this) (by simp)), Nat.le_refl _⟩

/-- What holds between two places of the pattern. -/
def Hall (p : ByteArray) (w : World) (c Ba Bn : Nat) (xs nx : List Bool) (i : Nat) (wy : World) : Prop :=
  NextTo p c xs nx i ∧ Row wy Ba xs ∧ Row wy Bn nx ∧ w.heap.size ≤ Bn ∧ Below w.heap.size w wy
theorem hall_start {p s : ByteArray} {w wr w2 : World} {c k Ba : Nat} {xs : List Bool} (M : Mid p s w k Ba xs wr) (hR : Row w2 wr.heap.size (List.replicate (p.size + 1) false)) (hG : wr.grownBy w2 none) : Hall p w c Ba wr.heap.size xs (List.replicate (p.size + 1) false) 0 w2 :=
  ⟨next_zero p c xs, M.2.1.kept hG (by simp), hR, M.2.2.2.2.1.size, M.2.2.2.2.1.grown hG M.2.2.2.2.1.size (by simp)⟩
theorem hall_same {p : ByteArray} {w wy : World} {c Ba Bn i : Nat} {xs nx : List Bool} (H : Hall p w c Ba Bn xs nx i wy) (hx : gt xs i = false) : Hall p w c Ba Bn xs nx (i + 1) wy :=
  ⟨next_same H.1 hx, H.2.1, H.2.2.1, H.2.2.2.1, H.2.2.2.2⟩
theorem hall_star {p : ByteArray} {w wy : World} {c Ba Bn i : Nat} {xs nx : List Bool} (hi : i < p.size) (hne : Ba ≠ Bn) (H : Hall p w c Ba Bn xs nx i wy) (hx : gt xs i = true) (e : p[i].toNat = 42) : Hall p w c Ba Bn xs (nx.set i true) (i + 1) (wy.setCell ⟨Bn, i, none⟩ (.bool true)) :=
  ⟨next_star hi H.1 hx ((star_iff hi).2 e), H.2.1.other hne _ _, H.2.2.1.put _ _, H.2.2.2.1, H.2.2.2.2.setCell H.2.2.2.1 _⟩
theorem not_star {p : ByteArray} {i : Nat} (hi : i < p.size) (e : p[i].toNat ≠ 42) : star p i = false := by
  cases hs : star p i with
  | false => rfl
  | true => exact absurd ((star_iff hi).1 hs) e
theorem hall_piece {p : ByteArray} {w wy : World} {c Ba Bn i J : Nat} {xs nx : List Bool} {b : Bool} (m : Nat) (hi : i < p.size) (hne : Ba ≠ Bn) (H : Hall p w c Ba Bn xs nx i wy) (hx : gt xs i = true) (e : p[i].toNat ≠ 42) (hJ : J = PN p i) (hb : b = (gt nx J || PT p c i)) :
    Hall p w c Ba Bn xs (nx.set J b) (i + 1) ((wy.drewN m).setCell ⟨Bn, J, none⟩ (.bool b)) :=
  ⟨next_piece hi H.1 hx (not_star hi e) hJ hb, (H.2.1.drewN m).other hne _ _, (H.2.2.1.drewN m).put _ _, H.2.2.2.1, (below_drewN H.2.2.2.2 m).setCell H.2.2.2.1 _⟩
theorem mid_old {p s : ByteArray} {w wr : World} {k Ba : Nat} {xs : List Bool} (M : Mid p s w k Ba xs wr) : Closed p xs ∧ (MM p s 0 0 = true ↔ Some1 p s xs k) := ⟨M.2.2.1, M.2.2.2.1⟩
theorem mid_next {p s : ByteArray} {w wy w1 : World} {k Bn i : Nat} {xs nx ys : List Bool} (hi : p.size = i) (hk : k < s.size) (M : Closed p xs ∧ (MM p s 0 0 = true ↔ Some1 p s xs k)) (hN : NextTo p s[k].toNat xs nx i) (hB : w.heap.size ≤ Bn) (hL : w.heap.size ≤ Bn ∧ Below w.heap.size w wy)
    (hP : Past p nx ys) (hR1 : Row w1 Bn ys) (hG1 : wy.grownBy w1 (some Bn)) : Mid p s w (k + 1) Bn ys w1 :=
  ⟨hP.1, hR1, past_closed hP, by subst hi; rw [← past_some hP, ← next_some hk M.1 hN]; exact M.2, hL.2.grown hG1 hL.2.size (by simp; exact hB), hB⟩

set_option maxRecDepth 100000 in
set_option maxHeartbeats 4000000 in
theorem rmatch_any (p s : ByteArray) (w : World) (hp : p.size ≤ 1000000000) (hs : s.size ≤ 1000000000) :
    Calls Try.prog 11 #[.string p, .string s] w fun e w' => e = .returned (.bool (MM p s 0 0)) ∧ Below w.heap.size w w' := by
  obtain ⟨i0, hi0, hz0, hz1, hz2⟩ := info_parts info4
  go_enter Try.func11, Try.ntmps11
  go_wp2_with (at_make; refine wpList_make_full _ rfl _ _ 33 rfl w.heap.size 4 i0 (.bool false) 1 Try.underlying33 hi0 hz0 hz1 _ _ _ _ (p.size + 1) rfl rfl (by first | rfl | omega) (by first | rfl | omega) ?b2 ?b3 (Nat.le_refl _) ?_)
  case b2 => rw [hz2]; omega
  case b3 => unfold maxLen; omega
  intro w0 hown0 hgrow0
  have HR0 := hid_of (row_of_own hown0)
  have hc0 := HR0.out.cell 0 (by simp)
  have hf0 := HR0.out.frozen 0
  have HG0 := hid_of hgrow0
  clear hown0 hgrow0
  go_wp2_with (go_at_call 19; refine (past_any p w.heap.size _ _ hp (HR0.out.put 0 true) (by simp)).mono ?_; rintro e w1 ⟨rfl, ys, hP, hR1, hG1⟩)
  have HM := hid_of (mid_start (s := s) HR0.out HG0.out hP hR1 hG1)
  clear hP hR1 hG1 hc0 hf0 HR0 HG0
  go_wp2
  go_loopg [5, 6] s.size (fun g s5 s6 wx => ∃ (k Ba : Nat) (xs : List Bool), k ≤ s.size ∧ s.size ≤ k + g ∧ s6 = .int .i64 k ∧ s5 = .slice (some ⟨Ba, 0, none⟩) (p.size + 1) (p.size + 1) ∧ Hid (Mid p s w k Ba xs wx))
  case atStart => exact ⟨0, w.heap.size, ys, by omega, by omega, rfl, rfl, HM⟩
  case round =>
    clear HM
    obtain ⟨k, Ba, xs, hk, hg, rfl, rfl, HM⟩ := hrel
    by_cases hlt : k < s.size
    · have hsz := HM.out.2.2.2.2.1.size
      obtain ⟨gO, rfl⟩ : ∃ gO, gk = gO + 1 := ⟨gk - 1, by omega⟩
      go_wp2_with (at_make; refine wpList_make_full _ rfl _ _ 33 rfl w.heap.size 4 i0 (.bool false) 1 Try.underlying33 hi0 hz0 hz1 _ _ _ _ (p.size + 1) rfl rfl (by first | rfl | omega) (by first | rfl | omega) ?b2 ?b3 hsz ?_)
      case b2 => rw [hz2]; omega
      case b3 => unfold maxLen; omega
      intro w2 hown2 hgrow2
      have HB := hid_of (hall_start (c := s[k].toNat) HM.out (row_of_own hown2) hgrow2)
      have hne : Ba ≠ wr.heap.size := Nat.ne_of_lt HM.out.2.1.lt
      have hxl := HM.out.1
      clear hown2 hgrow2
      obtain ⟨Bn, hBn⟩ : ∃ Bn, wr.heap.size = Bn := ⟨_, rfl⟩
      rw [hBn] at HB hne hsz ⊢
      have HM1 := hid_of (mid_old HM.out)
      clear HM hBn
      go_wp2
      go_loopg [8] p.size (fun g s8 wy => ∃ (i : Nat) (nx : List Bool), i ≤ p.size ∧ p.size ≤ i + g ∧ s8 = .int .i64 i ∧ Hid (Hall p w s[k].toNat Ba Bn xs nx i wy))
      case atStart => exact ⟨0, _, by omega, by omega, rfl, HB⟩
      case round =>
        clear HB
        obtain ⟨i, nx, hi, hgi, rfl, HB⟩ := hrel
        have hnl := HB.out.1.1
        by_cases hip : i < p.size
        · obtain ⟨g', rfl⟩ : ∃ g', gk = g' + 1 := ⟨gk - 1, by omega⟩
          have hca := HB.out.2.1.cell i (by omega)
          cases hx : gt xs i with
          | false =>
            rw [hx] at hca
            have HN := hid_of (hall_same HB.out hx)
            clear HB hx
            go_wp2
            go_roundg g'
            case measure => omega
            case rel => exact ⟨i + 1, nx, hip, by omega, rfl, HN⟩
          | true =>
            rw [hx] at hca
            by_cases e42 : p[i].toNat = 42
            · have ht : ((p[i].toNat : Int) == 42) = true := by rw [e42]; rfl
              have hcn := HB.out.2.2.1.cell i (by omega)
              have hfn := HB.out.2.2.1.frozen i
              have HN := hid_of (hall_star hip hne HB.out hx e42)
              clear HB hx e42
              go_wp2
              go_roundg g'
              case measure => omega
              case rel => exact ⟨i + 1, nx.set i true, hip, by omega, rfl, HN⟩
            · have t42 : ((p[i].toNat : Int) == 42) = false := by simp; omega
              by_cases e63 : p[i].toNat = 63
              · have ht : ((p[i].toNat : Int) == 63) = true := by rw [e63]; rfl
                have hcn := HB.out.2.2.1.cell (i + 1) (by omega)
                have hfn := HB.out.2.2.1.frozen (i + 1)
                have HN := hid_of (hall_piece (J := i + 1) (b := true) 0 hip hne HB.out hx e42 (PN_mark hip e63).symm (by rw [PT_mark _ hip e63, Bool.or_true]))
                clear HB hx e42 e63
                go_wp2
                go_roundg g'
                case measure => omega
                case rel => exact ⟨i + 1, nx.set (i + 1) true, hip, by omega, rfl, HN⟩
              · have t63 : ((p[i].toNat : Int) == 63) = false := by simp; omega
                by_cases e91 : p[i].toNat = 91
                · have ht : ((p[i].toNat : Int) == 91) = true := by rw [e91]; rfl
                  have hKE : KE p (i + 1) ≤ p.size := KE_le hip
                  have HC := hid_of (fun w => rclass_any p (i + 1) s[k].toNat w hp hip s[k].toNat_lt)
                  have hcn := HB.out.2.2.1.cell (KE p (i + 1)) (by omega)
                  have hfn := HB.out.2.2.1.frozen (KE p (i + 1))
                  cases hy : gt nx (KE p (i + 1)) with
                  | true =>
                    rw [hy] at hcn
                    have HN := hid_of (fun m => hall_piece (J := KE p (i + 1)) (b := true) m hip hne HB.out hx e42 (PN_class hip e91).symm (by rw [hy, Bool.true_or]))
                    clear HB hx e42 e63 e91 hy
                    go_wp2_with (go_at_call 20; refine (HC.out _).mono ?_; rintro e w1 ⟨rfl, m1, rfl⟩)
                    go_roundg g'
                    case measure => omega
                    case rel => exact ⟨i + 1, _, hip, by omega, rfl, HN.out m1⟩
                  | false =>
                    rw [hy] at hcn
                    have HN := hid_of (fun m => hall_piece (J := KE p (i + 1)) (b := KT p s[k].toNat (i + 1)) m hip hne HB.out hx e42 (PN_class hip e91).symm (by rw [hy, Bool.false_or, PT_class _ hip e91]))
                    clear HB hx e42 e63 e91 hy
                    go_wp2_with (go_at_call 20; refine (HC.out _).mono ?_; rintro e w1 ⟨rfl, m1, rfl⟩)
                    go_roundg g'
                    case measure => omega
                    case rel => exact ⟨i + 1, _, hip, by omega, rfl, HN.out m1⟩
                · have t91 : ((p[i].toNat : Int) == 91) = false := by simp; omega
                  have hw1 : IntKind.i64.wrap ((i : Int) + 1) = (i : Int) + 1 := IntWalk.i64_in _ (by omega)
                  have hw2 : IntKind.i64.wrap ((i : Int) + 2) = (i : Int) + 2 := IntWalk.i64_in _ (by omega)
                  have hxk := index_at s k hlt (k : Int) rfl
                  by_cases e92 : p[i].toNat = 92 ∧ i + 1 < p.size
                  · obtain ⟨e92, hi1⟩ := e92
                    have ht : ((p[i].toNat : Int) == 92) = true := by rw [e92]; rfl
                    have hxi := index_at p (i + 1) hi1 ((i : Int) + 1) (by omega)
                    have hcn := HB.out.2.2.1.cell (i + 2) (by omega)
                    have hfn := HB.out.2.2.1.frozen (i + 2)
                    cases hy : gt nx (i + 2) with
                    | true =>
                      rw [hy] at hcn
                      have HN := hid_of (fun m => hall_piece (J := i + 2) (b := true) m hip hne HB.out hx e42 (PN_esc hi1 e92).symm (by rw [hy, Bool.true_or]))
                      clear HB hx e42 e63 e91 hy e92
                      go_wp2
                      go_region
                      go_wp2
                      go_roundg g'
                      case measure => omega
                      case rel => exact ⟨i + 1, _, hip, by omega, rfl, HN.out 1⟩
                    | false =>
                      rw [hy] at hcn
                      have HN := hid_of (fun m => hall_piece (J := i + 2) (b := (p[i + 1].toNat == s[k].toNat)) m hip hne HB.out hx e42 (PN_esc hi1 e92).symm (by rw [hy, Bool.false_or, PT_esc _ hi1 e92]))
                      clear HB hx e42 e63 e91 hy e92
                      go_wp2
                      go_region
                      go_wp2
                      go_roundg g'
                      case measure => omega
                      case rel => exact ⟨i + 1, _, hip, by omega, rfl, by rw [int_beq]; exact HN.out 1⟩
                  · have hcn := HB.out.2.2.1.cell (i + 1) (by omega)
                    have hfn := HB.out.2.2.1.frozen (i + 1)
                    have hxi := index_at p i hip (i : Int) rfl
                    have hPN := hid_of (PN_else hip e63 e91 e92)
                    have hPT := hid_of (PT_else s[k].toNat hip e63 e91 e92)
                    have h92 : ((p[i].toNat : Int) == 92) = false ∨ (((p[i].toNat : Int) == 92) = true ∧ ¬ i + 1 < p.size) := by
                      by_cases e : p[i].toNat = 92
                      · exact Or.inr ⟨by rw [e]; rfl, by omega⟩
                      · exact Or.inl (by simp; omega)
                    cases hy : gt nx (i + 1) with
                    | true =>
                      rw [hy] at hcn
                      have HN := hid_of (fun m => hall_piece (J := i + 1) (b := true) m hip hne HB.out hx e42 hPN.out.symm (by rw [hy, Bool.true_or]))
                      clear HB hx e42 e63 e91 hy e92 hPN hPT
                      rcases h92 with h92 | ⟨h92, hi1⟩
                      all_goals
                        go_wp2
                        go_region
                        go_wp2
                        go_roundg g'
                        case measure => omega
                        case rel => exact ⟨i + 1, _, hip, by omega, rfl, HN.out 1⟩
                    | false =>
                      rw [hy] at hcn
                      have HN := hid_of (fun m => hall_piece (J := i + 1) (b := (p[i].toNat == s[k].toNat)) m hip hne HB.out hx e42 hPN.out.symm (by rw [hy, Bool.false_or, hPT.out]))
                      clear HB hx e42 e63 e91 hy e92 hPN hPT
                      rcases h92 with h92 | ⟨h92, hi1⟩
                      all_goals
                        go_wp2
                        go_region
                        go_wp2
                        go_roundg g'
                        case measure => omega
                        case rel => exact ⟨i + 1, _, hip, by omega, rfl, by rw [int_beq]; exact HN.out 1⟩
        · have HN := hid_of HB.out.1
          have HRn := hid_of HB.out.2.2.1
          have HBl := hid_of HB.out.2.2.2
          clear HB
          go_wp2_with (go_at_call 19; refine (past_any p Bn nx _ hp HRn.out hnl).mono ?_; rintro e w1 ⟨rfl, ys, hP, hR1, hG1⟩)
          have HM2 := hid_of (mid_next (by omega) hlt HM1.out HN.out hsz HBl.out hP hR1 hG1)
          clear hP hR1 hG1
          go_wp2
          go_roundg gO
          case measure => omega
          case rel => exact ⟨k + 1, Bn, ys, hlt, by omega, rfl, rfl, HM2⟩
    · have hl := HM.out.1
      have hc := HM.out.2.1.cell p.size (by omega)
      have HE := hid_of (end_some (p := p) (s := s) (xs := xs) (k := k) (by omega) HM.out.2.2.1)
      go_wp2
      go_ret
      refine ⟨ret_b ?_, HM.out.2.2.2.2.1⟩
      rw [Bool.eq_iff_iff, HM.out.2.2.2.1, HE.out]
end Go.Proofs.Ytaglcpjjekaohaa.RefMatch
