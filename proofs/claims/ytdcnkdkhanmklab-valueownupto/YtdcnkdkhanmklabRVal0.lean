/- The program's reader: a value. -/
import Derived.Test.YtdcnkdkhanmklabRVal
namespace Go.Proofs.Ytdcnkdkhanmklab.RVal0
open Go.RowKit Go.Maps
open Go.Proofs.Ytdcnkdkhanmklab.SetMath
open Go.Proofs.Ytdcnkdkhanmklab.BytesMath
open Go.Proofs.Ytdcnkdkhanmklab.ValueMath
open Go.Proofs.Ytdcnkdkhanmklab.ReadMath
open Go.Proofs.Ytdcnkdkhanmklab.Base
open Go.Proofs.Ytdcnkdkhanmklab.Vals
open Go.Proofs.Ytdcnkdkhanmklab.Rdr
open Go.Proofs.Ytdcnkdkhanmklab.Elem
open Go.Proofs.Ytdcnkdkhanmklab.Copy (nr_set row_set set5)
open Go.Proofs.Ytdcnkdkhanmklab.RVal
set_option linter.unusedVariables false

set_option maxHeartbeats 2000000 in
set_option maxRecDepth 100000 in
theorem val0 (b k : Nat) (r : Bs) (s1 : RS) (w : World) (h : RD b (r, false) w) (hl : r.length ≤ 140737488355328) (hk : k = 0 ∨ 5 < k) (hk2 : k < 256) (hn : nbS 1 (r, false) = (k, s1)) (hz : valS r = none) :
    Calls Try.prog 21 #[ptr b] w fun e w' => ∃ v, e = .returned v ∧ ResV b r w w' v ∧ Fr (At b) w w' := by
  have hbw := rdr_low h
  obtain ⟨V, hV⟩ : ∃ V, V = w.alloc zO := ⟨_, rfl⟩
  have bV : Below w.heap.size w V := by rw [hV]; exact FRow.bnew w _
  have v0 : V.heap[w.heap.size]? = some (.cells #[.int .i64 0, .string ⟨#[]⟩, .slice none 0 0, .slice none 0 0, .slice none 0 0] 26 (0, 0)) := by rw [hV]; exact heap_alloc_new w _
  have HN := hid_of (number_call b 1 (r, false) V (h.fr bV) hl)
  have HV := hid_of hV
  have HB := hid_of (fun W (hW : Fr (At b) V W) => And.intro (fr_go (Fr.of_below bV) hW) (fr_box v0 hW (by omega)))
  clear h v0 bV hV
  rw [hn] at HN
  have HZ := hid_of hz
  clear hn hz
  have e1 : ((k : Int) == 1) = false := by simp; omega
  have e2 : ((k : Int) == 2) = false := by simp; omega
  have e3 : ((k : Int) == 3) = false := by simp; omega
  have e4 : ((k : Int) == 4) = false := by simp; omega
  have e5 : ((k : Int) == 5) = false := by simp; omega
  have ew : IntKind.i64.wrap (k : Int) = (k : Int) := IntWalk.i64_in _ (by omega)
  go_enter Try.func21, Try.ntmps21
  go_wp2_with fail
  rw [← HV.out]
  refine HN.out.mono ?_
  rintro e w1 ⟨rfl, d1, f1⟩
  obtain ⟨f2, v1⟩ := HB.out w1 f1
  have hlt1 : w.heap.size < w1.heap.size := lt_of v1
  obtain ⟨⟨p0, p1, p2, p3, p4⟩, pz⟩ := box5 v1
  obtain ⟨⟨q0, q1⟩, qz⟩ := box2 d1
  have pz0 := pz 0
  have pz1 := pz 1
  have pz2 := pz 2
  have pz3 := pz 3
  have pz4 := pz 4
  have qz1 := qz 1
  have D := hid_of (And.intro d1 (And.intro f2 v1))
  have hb1 : b < w1.heap.size := by omega
  have hb2 : b ≠ w1.heap.size := by omega
  have hb3 : w1.heap.size ≠ b := by omega
  have hb4 : b ≠ w.heap.size := by omega
  have hb5 : w.heap.size ≠ b := by omega
  clear d1 f1 f2 v1 pz qz HN HB
  go_wp2_with fail
  obtain ⟨d1, f2, v1⟩ := D.out
  have y1 := set5 ((set_ne (b := b) (i := 1) (by omega) (.bool true)).trans v1) (.int .i64 k) (.string ⟨#[]⟩) (.slice none 0 0) (.slice none 0 0) (.slice none 0 0)
  have y2 := (heap_alloc_old _ (kO k) _ (lt_of y1)).trans y1
  obtain ⟨⟨g0, g1, g2, g3, g4⟩, _⟩ := box5 y2
  refine ⟨rfl, .agg #[.int .i64 k, .string ⟨#[]⟩, .slice none 0 0, .slice none 0 0, .slice none 0 0], ?_, _, rfl, ?_, ?_⟩
  · simp [results, Try.results21, go_sem, g0, g1, g2, g3, g4]
  · unfold ResV
    rw [HZ.out]
    have d2 := set_at (i := 1) d1 (.bool true)
    refine ⟨⟨s1.1, ?_⟩, _, _, _, _, _, _, _, _, _, _, _, rfl⟩
    refine (heap_alloc_old _ _ _ ?_).trans ((set_ne hb4 _).trans ((set_ne hb4 _).trans ((set_ne hb4 _).trans ((set_ne hb4 _).trans ((set_ne hb4 _).trans d2)))))
    rw [size_set, size_set, size_set, size_set, size_set, size_set]
    exact hb1
  · exact Fr.alloc (fr_set (fr_set (fr_set (fr_set (fr_set (fr_go f2 (Fr.set (F := At b) rfl _)) (Nat.le_refl _)) (Nat.le_refl _)) (Nat.le_refl _)) (Nat.le_refl _)) (Nat.le_refl _)) _
theorem value_call (b : Nat) (r : Bs) (w : World) (h : RD b (r, false) w) (hl : r.length ≤ 140737488355328) :
    Calls Try.prog 21 #[ptr b] w fun e w' => ∃ v, e = .returned v ∧ ResV b r w w' v ∧ Fr (At b) w w' := by
  cases hr : rdN 1 r with
  | none => exact val0 b 0 r (r, true) w h hl (Or.inl rfl) (by decide) (nb_none false hr) (by unfold valS; rw [hr]; rfl)
  | some q =>
    obtain ⟨k, r1⟩ := q
    have hk : k < 256 := by simpa using (rdN_some hr).2
    by_cases h1 : k = 1
    · subst h1; exact val1 b r r1 w h hl hr
    · by_cases h2 : k = 2
      · subst h2; exact val2 b r r1 w h hl hr
      · by_cases h3 : k = 3
        · subst h3; exact val3 b r r1 w h hl hr
        · by_cases h4 : k = 4
          · subst h4; exact val4 b r r1 w h hl hr
          · by_cases h5 : k = 5
            · subst h5; exact val5 b r r1 w h hl hr
            · refine val0 b k r (r1, false) w h hl (by omega) hk (nb_some (by decide) (by decide) hr) ?_
              unfold valS
              rw [hr]
              show bodyS k r1 = none
              unfold bodyS
              rw [if_neg h1, if_neg (by omega), if_neg h3, if_neg h5]
end Go.Proofs.Ytdcnkdkhanmklab.RVal0
