/- The document's fix: a number of eight bytes. What is written is read as it was, what is read is written as it was: no program is met here. The document's way of reading an effect tells what the program's does: no program is met here. The document's fields, Ahead, Empty. -/
import Derived.Test.YtpnigkjmofhmbabGreatERd
import Derived.BigQuiet
import Derived.Test.YtpnigkjmofhmbabGreatEDecM
import Derived.Test.YtpnigkjmofhmbabGreatEWriteM
import Derived.Test.YtpnigkjmofhmbabGreatCmpM
import Derived.Test.YtpnigkjmofhmbabGreatROfM
section
namespace Go.Proofs.YtpnigkjmofhmbabGreat.DFix
open Go.RowKit Go.Maps
open Go.Proofs.YtpnigkjmofhmbabGreat.SetMath
open Go.Proofs.YtpnigkjmofhmbabGreat.BytesMath
open Go.Proofs.YtpnigkjmofhmbabGreat.FixMath
open Go.Proofs.YtpnigkjmofhmbabGreat.ValueMath
open Go.Proofs.YtpnigkjmofhmbabGreat.ReadMath
open Go.Proofs.YtpnigkjmofhmbabGreat.Base
set_option linter.unusedVariables false
set_option linter.unusedSimpArgs false
theorem icut_to (l : Bs) (n : Nat) (h : n ≤ l.length) (w : World) : (Instr.slice 9 (.string (mk l)) none (some (.int .i64 (n : Int))) none).run Tryz.prog w = .ok (.string (mk (l.take n))) w := by
  have e : bs ((mk l).extract 0 n) = l.take n := by unfold bs; simp [mk, List.extract_eq_take_drop]
  rw [run_slice_string_to_if (P := Tryz.prog) (w := w) 9 (mk l) .i64 (n : Int) Tryz.underlying9, if_pos ⟨by omega, by rw [mk_size]; omega⟩]
  show Result.ok (Value.string ((mk l).extract 0 n)) w = _
  rw [← mk_bs ((mk l).extract 0 n), e]
theorem icut_from (l : Bs) (n : Nat) (h : n ≤ l.length) (w : World) : (Instr.slice 9 (.string (mk l)) (some (.int .i64 (n : Int))) none none).run Tryz.prog w = .ok (.string (mk (l.drop n))) w := by
  have e : bs ((mk l).extract n (mk l).size) = l.drop n := by
    have h2 : bs ((mk l).extract n (mk l).size) = (l.drop n).take ((mk l).size - n) := by unfold bs; simp [mk, List.extract_eq_take_drop]
    rw [h2, List.take_of_length_le (by rw [List.length_drop, mk_size]; omega)]
  rw [run_slice_string_from_if (P := Tryz.prog) (w := w) 9 (mk l) .i64 (n : Int) Tryz.underlying9, if_pos ⟨by omega, by rw [mk_size]; omega⟩]
  show Result.ok (Value.string ((mk l).extract n (mk l).size)) w = _
  rw [← mk_bs ((mk l).extract n (mk l).size), e]
/-- what fix tells: the number, what stands behind it, whether there is one -/
def fxS (s : Bs) : Int × Bs × Bool := if s.length < 8 ∨ 4611686018427387904 < leN (s.take 8) then (0, [], false) else ((leN (s.take 8) : Int), s.drop 8, true)
set_option maxHeartbeats 1000000 in
set_option maxRecDepth 100000 in
theorem fix_call (s : Bs) (w : World) (hl : s.length ≤ 140737488355328) :
    Calls Tryz.prog 55 #[.string (mk s)] w fun e w' => e = .returned (.tuple #[.int .i64 (fxS s).1, .string (mk (fxS s).2.1), .bool (fxS s).2.2]) ∧ Below w.heap.size w w' := by
  have hsz : (mk s).size = s.length := mk_size s
  by_cases h8 : s.length < 8
  · have e : fxS s = (0, [], false) := by unfold fxS; rw [if_pos (Or.inl h8)]
    rw [e]
    have g : ((mk s).size : Int) < 8 := by omega
    clear hsz e h8 hl
    generalize mk s = X at *
    go_enter Tryz.func55, Tryz.ntmps55
    go_wp2_with fail
    exact bodyPost_ret (v := .tuple #[.int .i64 0, .string ⟨#[]⟩, .bool false]) (by simp [results, Tryz.results55, go_sem]) rfl ⟨rfl, Below.refl _ _⟩
  · have h8' : 8 ≤ s.length := Nat.le_of_not_lt h8
    have g : ¬ ((mk s).size : Int) < 8 := by omega
    have s1 : ∀ w, (Instr.slice 9 (.string (mk s)) none (some (.int .i64 8)) none).run Tryz.prog w = .ok (.string (mk (s.take 8))) w := fun w => icut_to s 8 h8' w
    have s2 : ∀ w, (Instr.slice 9 (.string (mk s)) (some (.int .i64 8)) none none).run Tryz.prog w = .ok (.string (mk (s.drop 8))) w := fun w => icut_from s 8 h8' w
    have ht : (mk (s.take 8)).size = 8 := by rw [mk_size, List.length_take]; omega
    have hU := Unfix.runfix_ok (mk (s.take 8)) (h1 := by omega) (h8 := by omega)
    have hle : (mk (s.take 8)).data.toList = s.take 8 := bs_mk (s.take 8)
    rw [hle] at hU
    have HU := hid_of hU
    clear hU hle ht
    have hb : leN (s.take 8) < 18446744073709551616 := by
      have := leN_lt (s.take 8)
      rw [List.length_take_of_le h8'] at this
      simpa using this
    by_cases hg : 4611686018427387904 < leN (s.take 8)
    · have e : fxS s = (0, [], false) := by unfold fxS; rw [if_pos (Or.inr hg)]
      rw [e]
      have hg' : (4611686018427387904 : Int) < ((leN (s.take 8) : Nat) : Int) := by omega
      clear hsz e h8 hl h8' hg hb
      generalize leN (s.take 8) = N at *
      generalize mk (s.take 8) = T at *
      generalize mk (s.drop 8) = U at *
      generalize mk s = X at *
      go_enter Tryz.func55, Tryz.ntmps55
      go_wp2_with fail
      refine (HU.out w).mono ?_
      rintro e w1 ⟨rfl, hw1⟩
      rw [hw1]
      go_wp2_with fail
      exact bodyPost_ret (v := .tuple #[.int .i64 0, .string ⟨#[]⟩, .bool false]) (by simp [results, Tryz.results55, go_sem]) rfl ⟨rfl, Below.refl _ _⟩
    · have e : fxS s = ((leN (s.take 8) : Int), s.drop 8, true) := by unfold fxS; rw [if_neg (by omega)]
      rw [e]
      simp only
      have hg' : ¬ (4611686018427387904 : Int) < ((leN (s.take 8) : Nat) : Int) := by omega
      have hwr : IntKind.i64.wrap ((leN (s.take 8) : Nat) : Int) = ((leN (s.take 8) : Nat) : Int) := IntWalk.i64_in _ (by omega)
      clear hsz e h8 hl h8' hg hb
      generalize leN (s.take 8) = N at *
      generalize mk (s.take 8) = T at *
      generalize mk (s.drop 8) = U at *
      generalize mk s = X at *
      go_enter Tryz.func55, Tryz.ntmps55
      go_wp2_with fail
      refine (HU.out w).mono ?_
      rintro e w1 ⟨rfl, hw1⟩
      rw [hw1]
      go_wp2_with fail
      go_quiet (fail)
      go_wp2_with fail
      exact bodyPost_ret (v := .tuple #[.int .i64 (N : Int), .string U, .bool true]) (by simp [results, Tryz.results55, go_sem]) rfl ⟨rfl, by first | exact Below.refl _ _ | exact (Below.refl _ _).drew | exact bel_drewN _ _⟩
end Go.Proofs.YtpnigkjmofhmbabGreat.DFix
end
section
namespace Go.Proofs.YtpnigkjmofhmbabGreat.EBackM
open Go.Proofs.YtpnigkjmofhmbabGreat.SetMath
open Go.Proofs.YtpnigkjmofhmbabGreat.BytesMath
open Go.Proofs.YtpnigkjmofhmbabGreat.FixMath
open Go.Proofs.YtpnigkjmofhmbabGreat.ValueMath
open Go.Proofs.YtpnigkjmofhmbabGreat.ReadMath
open Go.Proofs.YtpnigkjmofhmbabGreat.Check0
open Go.Proofs.YtpnigkjmofhmbabGreat.Dec
open Go.Proofs.YtpnigkjmofhmbabGreat.SBase (Ef)
open Go.Proofs.YtpnigkjmofhmbabGreat.EMay
open Go.Proofs.YtpnigkjmofhmbabGreat.EAll
open Go.Proofs.YtpnigkjmofhmbabGreat.EEnc
open Go.Proofs.YtpnigkjmofhmbabGreat.ERd
open Go.Proofs.YtpnigkjmofhmbabGreat.EEff
open Go.Proofs.YtpnigkjmofhmbabGreat.EDec
set_option linter.unusedVariables false
set_option linter.unusedSimpArgs false
theorem nb1 (c : UInt8) (r : Bs) : nbS 1 (c :: r, false) = (c.toNat, r, false) := nb_some (by omega) (by omega) (rdN1 c r)
theorem nb8 (n : Nat) (r : Bs) (h : n < 18446744073709551616) : nbS 8 (leY n 8 ++ r, false) = (n, r, false) := nb_some (by omega) (by omega) (rdN_app 8 n (by simpa using h) r)
theorem tkA (k r : Bs) : tkS k.length (k ++ r, false) = (k, r, false) := by
  rw [tk_ok (by simp)]
  simp
theorem ky_app (k r : Bs) (h : k.length < 18446744073709551616) : kyS (leY (k.length : Int) 8 ++ k ++ r, false) = (k, r, false) := by
  unfold kyS
  rw [List.append_assoc, nb8 _ _ h]
  exact tkA k r
theorem vl_app (x : Vl) (r : Bs) (h : chk x = 0) (hs : small x) : vlS (enc x ++ r, false) = (x, r, false) := by
  unfold vlS decV
  rw [dec_app x r h hs]
  show (x, (tkS (enc x).length (enc x ++ r, false || decide ((0 : Int) ≠ 0))).2) = _
  rw [show (false || decide ((0 : Int) ≠ 0)) = false from by decide, tkA]
theorem wrap_in {n : Nat} (h : n ≤ 9007199254740992) : IntKind.i64.wrap (n : Int) = n := IntWalk.i64_in _ (by omega)
theorem four {k : Int} (h : okK k = true) : k = 1 ∨ k = 2 ∨ k = 3 ∨ k = 4 := by
  unfold okK at h
  simp only [Bool.or_eq_true, decide_eq_true_eq] at h
  omega
theorem may_cut {f : Ef} (h : mayE f = true) : okK f.kind = true ∧ keyB (pkK f.kind) f.key = true ∧ dueB (pdK f.kind) f.due = true ∧ valB (pvK f.kind) f.val = true := by
  unfold mayE at h
  simp only [Bool.and_eq_true] at h
  exact h
theorem due_nat {d : Int} (h : dueOk d = true) : ∃ n : Nat, d = n ∧ n ≤ 9007199254740992 := by
  unfold dueOk at h
  simp only [Bool.and_eq_true, decide_eq_true_eq] at h
  exact ⟨d.toNat, by omega, by omega⟩
/-- an effect that may be is read as it was -/
theorem ef_app {f : Ef} (r : Bs) (h : mayE f = true) (hn : Nice f) : efS (EWrite.encE f ++ r, false) = (f, r, false) := by
  obtain ⟨h1, h2, h3, h4⟩ := may_cut h
  have hk := hn.key
  have hs := hn.sm
  obtain ⟨k, key, x, d⟩ := f
  simp only at h1 h2 h3 h4 hk hs
  unfold EWrite.encE efS r3 r2 r1 rK
  simp only
  rcases four h1 with rfl | rfl | rfl | rfl
  · rw [show pdK 1 = true from by decide] at h3
    rw [show pvK 1 = true from by decide] at h4
    obtain ⟨n, rfl, hd⟩ := due_nat (by simpa [dueB] using h3)
    have hc : chk x = 0 := by simpa [valB] using h4
    rw [show pkK 1 = true from by decide, show pdK 1 = true from by decide, show pvK 1 = true from by decide, if_pos rfl, if_pos rfl, if_pos rfl]
    rw [show ([UInt8.ofNat (1 : Int).toNat] ++ ((leY (key.length : Int) 8 ++ key) ++ (leY (n : Int) 8 ++ enc x)) ++ r : Bs) = 1 :: (leY (key.length : Int) 8 ++ key ++ (leY (n : Int) 8 ++ (enc x ++ r))) from by simp]
    rw [nb1]
    simp only [show ((((1 : UInt8).toNat : Nat)) : Int) = 1 from rfl, show pkK 1 = true from by decide, show pdK 1 = true from by decide, show pvK 1 = true from by decide, if_true]
    rw [ky_app _ _ (by omega)]
    simp only
    rw [nb8 _ _ (by omega)]
    simp only
    rw [vl_app x r hc hs, wrap_in hd]
  · rw [show pdK 2 = false from by decide] at h3
    rw [show pvK 2 = false from by decide] at h4
    have hd : d = 0 := by simpa [dueB] using h3
    have hc : x = zV := (sm_iff _ _).1 (by simpa [valB] using h4)
    subst hd hc
    rw [show pkK 2 = true from by decide, show pdK 2 = false from by decide, show pvK 2 = false from by decide, if_pos rfl, if_neg (by decide), if_neg (by decide)]
    rw [show ([UInt8.ofNat (2 : Int).toNat] ++ ((leY (key.length : Int) 8 ++ key) ++ ([] ++ [])) ++ r : Bs) = 2 :: (leY (key.length : Int) 8 ++ key ++ r) from by simp]
    rw [nb1]
    simp only [show ((((2 : UInt8).toNat : Nat)) : Int) = 2 from rfl, show pkK 2 = true from by decide, show pdK 2 = false from by decide, show pvK 2 = false from by decide, if_true, if_false, Bool.false_eq_true]
    rw [ky_app _ _ (by omega)]
  · rw [show pdK 3 = true from by decide] at h3
    rw [show pvK 3 = false from by decide] at h4
    obtain ⟨n, rfl, hd⟩ := due_nat (by simpa [dueB] using h3)
    have hc : x = zV := (sm_iff _ _).1 (by simpa [valB] using h4)
    subst hc
    rw [show pkK 3 = true from by decide, show pdK 3 = true from by decide, show pvK 3 = false from by decide, if_pos rfl, if_pos rfl, if_neg (by decide)]
    rw [show ([UInt8.ofNat (3 : Int).toNat] ++ ((leY (key.length : Int) 8 ++ key) ++ (leY (n : Int) 8 ++ [])) ++ r : Bs) = 3 :: (leY (key.length : Int) 8 ++ key ++ (leY (n : Int) 8 ++ r)) from by simp]
    rw [nb1]
    simp only [show ((((3 : UInt8).toNat : Nat)) : Int) = 3 from rfl, show pkK 3 = true from by decide, show pdK 3 = true from by decide, show pvK 3 = false from by decide, if_true, if_false, Bool.false_eq_true]
    rw [ky_app _ _ (by omega)]
    simp only
    rw [nb8 _ _ (by omega)]
    simp only
    rw [wrap_in hd]
  · rw [show pdK 4 = false from by decide] at h3
    rw [show pvK 4 = false from by decide] at h4
    rw [show pkK 4 = false from by decide] at h2
    have hd : d = 0 := by simpa [dueB] using h3
    have hc : x = zV := (sm_iff _ _).1 (by simpa [valB] using h4)
    have hy : key = [] := by simpa [keyB] using h2
    subst hd hc hy
    rw [show pkK 4 = false from by decide, show pdK 4 = false from by decide, show pvK 4 = false from by decide, if_neg (by decide), if_neg (by decide), if_neg (by decide)]
    rw [show ([UInt8.ofNat (4 : Int).toNat] ++ ([] ++ ([] ++ [])) ++ r : Bs) = 4 :: r from by simp]
    rw [nb1]
    simp only [show ((((4 : UInt8).toNat : Nat)) : Int) = 4 from rfl, show pkK 4 = false from by decide, show pdK 4 = false from by decide, show pvK 4 = false from by decide, if_false, Bool.false_eq_true]
theorem dc_enc {l : List Ef} (h : allE l = true) (hn : ∀ f ∈ l, Nice f) : dcL (encL l) = some l := by
  induction l with
  | nil => exact dc_nil
  | cons f r ih =>
    have h' : mayE f = true ∧ allE r = true := by simpa [allE] using h
    have e : encL (f :: r) = EWrite.encE f ++ encL r := by unfold encL; rw [List.flatMap_cons]
    have e2 := ef_app (encL r) h'.1 (hn f List.mem_cons_self)
    have ne : EWrite.encE f ++ encL r ≠ [] := by unfold EWrite.encE; simp
    rw [e, dc_yes ne (by rw [e2]; simp [h'.1]), e2]
    show (dcL (encL r)).map (f :: ·) = _
    rw [ih h'.2 fun g hg => hn g (List.mem_cons_of_mem _ hg)]
    rfl
/- the other way -/
theorem tk_inv {n : Nat} {s : RS} (h : (tkS n s).2.2 = false) : s.2 = false ∧ n ≤ s.1.length ∧ tkS n s = (s.1.take n, s.1.drop n, false) := by
  obtain ⟨r, f⟩ := s
  cases f with
  | true => rw [tk_bad] at h; cases h
  | false =>
    by_cases hl : r.length < n
    · rw [tk_no _ hl] at h; cases h
    · exact ⟨rfl, Nat.le_of_not_lt hl, tk_ok (Nat.le_of_not_lt hl)⟩
theorem nb_inv {n : Nat} {s : RS} (h1 : 1 ≤ n) (h8 : n ≤ 8) (h : (nbS n s).2.2 = false) : s.2 = false ∧ s.1 = leY ((nbS n s).1 : Int) n ++ (nbS n s).2.1 ∧ (nbS n s).1 < 256 ^ n := by
  obtain ⟨e1, e2, e3⟩ := tk_inv (show (tkS n s).2.2 = false from h)
  obtain ⟨r, f⟩ := s
  obtain rfl : f = false := e1
  have e : rdN n r = some (leN (r.take n), r.drop n) := by unfold rdN; rw [if_neg (Nat.not_lt.2 e2)]
  rw [nb_some h1 h8 e]
  exact ⟨rfl, rdN_some e⟩
theorem ky_inv {s : RS} (h : (kyS s).2.2 = false) : s.2 = false ∧ s.1 = leY ((kyS s).1.length : Int) 8 ++ (kyS s).1 ++ (kyS s).2.1 := by
  unfold kyS at *
  obtain ⟨e1, e2, e3⟩ := tk_inv h
  obtain ⟨g1, g2, g3⟩ := nb_inv (n := 8) (by omega) (by omega) e1
  refine ⟨g1, ?_⟩
  rw [e3]
  simp only
  rw [List.length_take_of_le e2, List.append_assoc, List.take_append_drop]
  exact g2
theorem vl_inv {s : RS} (h : (vlS s).2.2 = false) : s.2 = false ∧ s.1 = enc (vlS s).1 ++ (vlS s).2.1 ∧ chk (vlS s).1 = 0 ∧ small (vlS s).1 ∧ Wel (vlS s).1 := by
  unfold vlS at *
  obtain ⟨e1, e2, e3⟩ := tk_inv h
  simp only at e1 e2 e3
  rw [Bool.or_eq_false_iff] at e1
  obtain ⟨g1, g2⟩ := e1
  cases hd : decS s.1 with
  | none => unfold decV at g2; rw [hd] at g2; simp at g2
  | some q =>
    obtain ⟨v, n⟩ := q
    obtain ⟨c1, c2, c3, c4, c5⟩ := dec_some hd
    have ev : decV s.1 = (v, n, 0) := by unfold decV; rw [hd]
    have hw : Wel v := by
      unfold decS at hd
      obtain ⟨⟨v', r⟩, y1, y2⟩ := Option.bind_eq_some_iff.1 hd
      simp only at y2
      split at y2
      · injection y2 with y2
        injection y2 with y3 y4
        subst y3
        exact val_wel y1
      · cases y2
    rw [ev] at e3 e2 ⊢
    simp only at e3 e2 ⊢
    rw [e3]
    refine ⟨g1, ?_, c1, c2, hw⟩
    simp only
    rw [c4, List.take_append_drop]
theorem zv_wel : Wel zV := by
  refine { l := ?_, f := ?_, r := ?_, t := ?_, ls := ?_, fs := ?_, rs := ?_, r24 := ?_ }
  all_goals first
    | (simp [zV]; done)
    | (simp [zV, FRow.big, ERow.big]; done)
    | (intro y hy; simp [zV] at hy; done)
    | (exact ⟨fun p hp => by simp [zV] at hp, fun p hp => by simp [zV] at hp⟩)
theorem zv_small : small zV := ⟨by decide, by decide, by decide⟩
theorem byte_of (c : UInt8) (k : Int) (h : ((c.toNat : Nat) : Int) = k) : UInt8.ofNat k.toNat = c := by
  subst h
  simp
/-- what is read of bytes is written as it was -/
theorem ef_inv {s : Bs} (hs : s ≠ []) (h : (efS (s, false)).2.2 = false) (hm : mayE (efS (s, false)).1 = true) (hl : s.length ≤ 140737488355328) : s = EWrite.encE (efS (s, false)).1 ++ (efS (s, false)).2.1 ∧ Nice (efS (s, false)).1 := by
  obtain ⟨h1, h2, h3, h4⟩ := may_cut hm
  cases s with
  | nil => exact absurd rfl hs
  | cons c r =>
    have hb := nb1 c r
    clear hm
    unfold efS r3 r2 r1 rK at h h1 h2 h3 h4 ⊢
    simp only [hb] at h h1 h2 h3 h4 ⊢
    clear hb
    have hbk := byte_of c _ rfl
    generalize ((c.toNat : Nat) : Int) = k at *
    rcases four h1 with rfl | rfl | rfl | rfl
    · simp only [show pkK 1 = true from by decide, show pdK 1 = true from by decide, show pvK 1 = true from by decide, if_true] at *
      obtain ⟨a1, a2, a3, a4, a5⟩ := vl_inv h
      obtain ⟨b1, b2, b3⟩ := nb_inv (n := 8) (by omega) (by omega) a1
      obtain ⟨c1, c2⟩ := ky_inv b1
      obtain ⟨n, hd, hn⟩ := due_nat (by simpa [dueB] using h3)
      simp only at c2
      refine ⟨?_, ⟨?_, a5, a4⟩⟩
      · unfold EWrite.encE
        simp only [show pkK 1 = true from by decide, show pdK 1 = true from by decide, show pvK 1 = true from by decide, if_true]
        have hw : IntKind.i64.wrap ((nbS 8 (kyS (r, false)).2).1 : Int) = ((nbS 8 (kyS (r, false)).2).1 : Int) := by
          have b4 : (nbS 8 (kyS (r, false)).2).1 < 18446744073709551616 := by simpa using b3
          by_cases hx : (nbS 8 (kyS (r, false)).2).1 ≤ 9223372036854775807
          · exact IntWalk.i64_in _ (by omega)
          · exfalso
            rw [IntKind.wrap_i64] at hd
            omega
        rw [hw, hbk]
        simp only [List.cons_append, List.nil_append, List.append_assoc]
        congr 1
        rw [← a2, ← b2]
        rw [← List.append_assoc]
        exact c2
      · have := congrArg List.length c2
        simp only [List.length_append, List.length_cons] at this hl ⊢
        omega
    · simp only [show pkK 2 = true from by decide, show pdK 2 = false from by decide, show pvK 2 = false from by decide, if_true, if_false, Bool.false_eq_true] at *
      obtain ⟨c1, c2⟩ := ky_inv h
      simp only at c2
      refine ⟨?_, ⟨?_, zv_wel, zv_small⟩⟩
      · unfold EWrite.encE
        simp only [show pkK 2 = true from by decide, show pdK 2 = false from by decide, show pvK 2 = false from by decide, if_true, if_false, Bool.false_eq_true]
        rw [hbk]
        simp only [List.cons_append, List.nil_append, List.append_assoc, List.append_nil]
        congr 1
      · have := congrArg List.length c2
        simp only [List.length_append, List.length_cons] at this hl ⊢
        omega
    · simp only [show pkK 3 = true from by decide, show pdK 3 = true from by decide, show pvK 3 = false from by decide, if_true, if_false, Bool.false_eq_true] at *
      obtain ⟨b1, b2, b3⟩ := nb_inv (n := 8) (by omega) (by omega) h
      obtain ⟨c1, c2⟩ := ky_inv b1
      obtain ⟨n, hd, hn⟩ := due_nat (by simpa [dueB] using h3)
      simp only at c2
      refine ⟨?_, ⟨?_, zv_wel, zv_small⟩⟩
      · unfold EWrite.encE
        simp only [show pkK 3 = true from by decide, show pdK 3 = true from by decide, show pvK 3 = false from by decide, if_true, if_false, Bool.false_eq_true]
        have hw : IntKind.i64.wrap ((nbS 8 (kyS (r, false)).2).1 : Int) = ((nbS 8 (kyS (r, false)).2).1 : Int) := by
          have b4 : (nbS 8 (kyS (r, false)).2).1 < 18446744073709551616 := by simpa using b3
          by_cases hx : (nbS 8 (kyS (r, false)).2).1 ≤ 9223372036854775807
          · exact IntWalk.i64_in _ (by omega)
          · exfalso
            rw [IntKind.wrap_i64] at hd
            omega
        rw [hw, hbk]
        simp only [List.cons_append, List.nil_append, List.append_assoc, List.append_nil]
        congr 1
        rw [← b2]
        rw [← List.append_assoc]
        exact c2
      · have := congrArg List.length c2
        simp only [List.length_append, List.length_cons] at this hl ⊢
        omega
    · simp only [show pkK 4 = false from by decide, show pdK 4 = false from by decide, show pvK 4 = false from by decide, if_false, Bool.false_eq_true] at *
      refine ⟨?_, ⟨by simp, zv_wel, zv_small⟩⟩
      unfold EWrite.encE
      simp only [show pkK 4 = false from by decide, show pdK 4 = false from by decide, show pvK 4 = false from by decide, if_false, Bool.false_eq_true]
      rw [hbk]
      simp
theorem dc_some : ∀ (n : Nat) (s : Bs) (l : List Ef), s.length ≤ n → s.length ≤ 140737488355328 → dcL s = some l → allE l = true ∧ encL l = s ∧ ∀ f ∈ l, Nice f := by
  intro n
  induction n with
  | zero =>
    intro s l hn hl h
    have : s = [] := List.length_eq_zero_iff.1 (by omega)
    subst this
    rw [dc_nil] at h
    injection h with h
    subst h
    exact ⟨rfl, rfl, fun f hf => by cases hf⟩
  | succ n ih =>
    intro s l hn hl h
    by_cases hs : s = []
    · subst hs
      rw [dc_nil] at h
      injection h with h
      subst h
      exact ⟨rfl, rfl, fun f hf => by cases hf⟩
    · cases hb : ((efS (s, false)).2.2 || !mayE (efS (s, false)).1) with
      | true => rw [dc_no hs hb] at h; cases h
      | false =>
        rw [dc_yes hs hb] at h
        rw [Bool.or_eq_false_iff] at hb
        have hm : mayE (efS (s, false)).1 = true := by simpa using hb.2
        obtain ⟨e1, e2⟩ := ef_inv hs hb.1 hm hl
        have hlt := ef_lt hs hb.1
        obtain ⟨m, h1, rfl⟩ := Option.map_eq_some_iff.1 h
        obtain ⟨i1, i2, i3⟩ := ih _ m (by omega) (by omega) h1
        refine ⟨by simp [allE, hm]; simpa [allE] using i1, ?_, fun f hf => ?_⟩
        · have e : encL ((efS (s, false)).1 :: m) = EWrite.encE (efS (s, false)).1 ++ encL m := by unfold encL; rw [List.flatMap_cons]
          rw [e, i2]
          exact e1.symm
        · rcases List.mem_cons.1 hf with rfl | hf
          · exact e2
          · exact i3 f hf
end Go.Proofs.YtpnigkjmofhmbabGreat.EBackM
end
section
namespace Go.Proofs.YtpnigkjmofhmbabGreat.DTakM
open Go.Proofs.YtpnigkjmofhmbabGreat.SetMath
open Go.Proofs.YtpnigkjmofhmbabGreat.BytesMath
open Go.Proofs.YtpnigkjmofhmbabGreat.FixMath
open Go.Proofs.YtpnigkjmofhmbabGreat.ValueMath
open Go.Proofs.YtpnigkjmofhmbabGreat.ReadMath
open Go.Proofs.YtpnigkjmofhmbabGreat.Check0
open Go.Proofs.YtpnigkjmofhmbabGreat.Dec
open Go.Proofs.YtpnigkjmofhmbabGreat.SBase (Ef)
open Go.Proofs.YtpnigkjmofhmbabGreat.EMay
open Go.Proofs.YtpnigkjmofhmbabGreat.EAll
open Go.Proofs.YtpnigkjmofhmbabGreat.ERd
open Go.Proofs.YtpnigkjmofhmbabGreat.EEff
open Go.Proofs.YtpnigkjmofhmbabGreat.EDec
open Go.Proofs.YtpnigkjmofhmbabGreat.EBackM
open Go.Proofs.YtpnigkjmofhmbabGreat.DFix
set_option linter.unusedVariables false
set_option linter.unusedSimpArgs false
def bad (s : Bs) : Prop := ((efS (s, false)).2.2 || !mayE (efS (s, false)).1) = true
theorem bad_fl {s : Bs} (h : (efS (s, false)).2.2 = true) : bad s := by unfold bad; rw [h]; rfl
theorem bad_may {s : Bs} (h : mayE (efS (s, false)).1 = false) : bad s := by unfold bad; rw [h]; simp
theorem fl2 {s : RS} (h : (r2 s).2.2 = true) : (efS s).2.2 = true := by
  show (r3 s).2.2 = true
  unfold r3
  split
  · obtain ⟨x, hx⟩ : ∃ x, (r2 s).2 = (x, true) := ⟨(r2 s).2.1, Prod.ext rfl h⟩
    rw [hx]
    unfold vlS
    simp only [Bool.true_or]
    rw [tk_bad]
  · exact h
theorem fl1 {s : RS} (h : (r1 s).2.2 = true) : (efS s).2.2 = true := fl2 (by
  unfold r2
  split
  · obtain ⟨x, hx⟩ : ∃ x, (r1 s).2 = (x, true) := ⟨(r1 s).2.1, Prod.ext rfl h⟩
    rw [hx, nb_bad]
  · exact h)
theorem k1 (c : UInt8) (r : Bs) : nbS 1 (c :: r, false) = (c.toNat, r, false) := nb1 c r
theorem kd_of (s : RS) : (efS s).1.kind = rK s := rfl
theorem rk (c : UInt8) (r : Bs) : rK (c :: r, false) = (c.toNat : Int) := by unfold rK; rw [k1]
theorem may_kd {f : Ef} (h : okK f.kind = false) : mayE f = false := by unfold mayE; rw [h]; rfl
theorem g_other {c : UInt8} {r : Bs} (h : okK (c.toNat : Int) = false) : bad (c :: r) := bad_may (may_kd (by rw [kd_of, rk]; exact h))
theorem b_key {c : UInt8} {r : Bs} (hk : pkK (c.toNat : Int) = true) (h : (kyS (r, false)).2.2 = true) : bad (c :: r) := bad_fl (fl1 (by
  unfold r1
  rw [rk, if_pos hk, k1]
  exact h))
theorem fx_split (r : Bs) : (∃ (N : Nat) (u : Bs), fxS r = ((N : Int), u, true) ∧ N ≤ 4611686018427387904 ∧ nbS 8 (r, false) = (N, u, false) ∧ u.length + 8 = r.length) ∨ (fxS r = (0, [], false) ∧ ((nbS 8 (r, false)).2.2 = true ∨ ∃ (N : Nat) (u : Bs), 4611686018427387904 < N ∧ N < 18446744073709551616 ∧ nbS 8 (r, false) = (N, u, false) ∧ u.length + 8 = r.length)) := by
  by_cases h8 : r.length < 8
  · refine .inr ⟨by unfold fxS; rw [if_pos (Or.inl h8)], .inl ?_⟩
    rw [nb_none false (show rdN 8 r = none by unfold rdN; rw [if_pos h8])]
  · have e : nbS 8 (r, false) = (leN (r.take 8), r.drop 8, false) := nb_some (by omega) (by omega) (show rdN 8 r = some (leN (r.take 8), r.drop 8) by unfold rdN; rw [if_neg h8])
    have hl : (r.drop 8).length + 8 = r.length := by rw [List.length_drop]; omega
    have hb : leN (r.take 8) < 18446744073709551616 := by
      have := leN_lt (r.take 8)
      rw [List.length_take_of_le (by omega)] at this
      simpa using this
    by_cases hg : 4611686018427387904 < leN (r.take 8)
    · exact .inr ⟨by unfold fxS; rw [if_pos (Or.inr hg)], .inr ⟨_, _, hg, hb, e, hl⟩⟩
    · exact .inl ⟨_, _, by unfold fxS; rw [if_neg (by omega)], by omega, e, hl⟩
theorem ky_fx {r : Bs} (hl : r.length ≤ 140737488355328) (h : (fxS r).2.2 = false) : (kyS (r, false)).2.2 = true := by
  rcases fx_split r with ⟨N, u, e, _⟩ | ⟨_, e | ⟨N, u, h1, h2, e, h3⟩⟩
  · rw [e] at h; cases h
  · unfold kyS
    obtain ⟨x, hx⟩ : ∃ x, (nbS 8 (r, false)).2 = (x, true) := ⟨(nbS 8 (r, false)).2.1, Prod.ext rfl e⟩
    rw [hx, tk_bad]
  · unfold kyS
    rw [e]
    simp only
    rw [tk_no false (by omega)]
theorem ky_long {r u : Bs} {n : Int} (h : fxS r = (n, u, true)) (hn : (u.length : Int) < n) : (kyS (r, false)).2.2 = true := by
  rcases fx_split r with ⟨N, u', e, h1, h2, h3⟩ | ⟨e, _⟩
  · rw [h] at e
    injection e with e1 e2
    injection e2 with e2 e3
    subst e1 e2
    unfold kyS
    rw [h2]
    simp only
    rw [tk_no false (by omega)]
  · rw [h] at e
    injection e with e1 e2
    injection e2 with e2 e3
    cases e3
theorem ky_ok {r u : Bs} {n : Int} (h : fxS r = (n, u, true)) (hn : ¬ (u.length : Int) < n) : ∃ N : Nat, n = (N : Int) ∧ N ≤ u.length ∧ u.length + 8 = r.length ∧ kyS (r, false) = (u.take N, u.drop N, false) := by
  rcases fx_split r with ⟨N, u', e, h1, h2, h3⟩ | ⟨e, _⟩
  · rw [h] at e
    injection e with e1 e2
    injection e2 with e2 e3
    subst e1 e2
    refine ⟨N, rfl, by omega, h3, ?_⟩
    unfold kyS
    rw [h2]
    simp only
    rw [tk_ok (by omega)]
  · rw [h] at e
    injection e with e1 e2
    injection e2 with e2 e3
    cases e3
theorem g4 (r : Bs) : efS (4 :: r, false) = (⟨4, [], zV, 0⟩, r, false) := by
  unfold efS r3 r2 r1 rK
  rw [k1]
  simp only [show (((4 : UInt8).toNat : Nat) : Int) = 4 from rfl, show pkK 4 = false from by decide, show pdK 4 = false from by decide, show pvK 4 = false from by decide, if_false, Bool.false_eq_true]
theorem g2 {r k u : Bs} (h : kyS (r, false) = (k, u, false)) : efS (2 :: r, false) = (⟨2, k, zV, 0⟩, u, false) := by
  unfold efS r3 r2 r1 rK
  rw [k1]
  simp only [show (((2 : UInt8).toNat : Nat) : Int) = 2 from rfl, show pkK 2 = true from by decide, show pdK 2 = false from by decide, show pvK 2 = false from by decide, if_true, if_false, Bool.false_eq_true, h]
theorem g3 {r k u u2 : Bs} {n : Int} (h : kyS (r, false) = (k, u, false)) (hf : fxS u = (n, u2, true)) : efS (3 :: r, false) = (⟨3, k, zV, n⟩, u2, false) := by
  rcases fx_split u with ⟨N, u', e, h1, h2, h3⟩ | ⟨e, _⟩
  · rw [hf] at e
    injection e with e1 e2
    injection e2 with e2 e3
    subst e1 e2
    unfold efS r3 r2 r1 rK
    rw [k1]
    simp only [show (((3 : UInt8).toNat : Nat) : Int) = 3 from rfl, show pkK 3 = true from by decide, show pdK 3 = true from by decide, show pvK 3 = false from by decide, if_true, if_false, Bool.false_eq_true, h, h2]
    rw [IntWalk.i64_in _ (by omega)]
  · rw [hf] at e
    injection e with e1 e2
    injection e2 with e2 e3
    cases e3
theorem g1 {r k u u2 : Bs} {n : Int} {v : Vl} {m : Nat} (h : kyS (r, false) = (k, u, false)) (hf : fxS u = (n, u2, true)) (hd : decV u2 = (v, m, 0)) (hm : m ≤ u2.length) : efS (1 :: r, false) = (⟨1, k, v, n⟩, u2.drop m, false) := by
  rcases fx_split u with ⟨N, u', e, h1, h2, h3⟩ | ⟨e, _⟩
  · rw [hf] at e
    injection e with e1 e2
    injection e2 with e2 e3
    subst e1 e2
    unfold efS r3 r2 r1 rK vlS
    rw [k1]
    simp only [show (((1 : UInt8).toNat : Nat) : Int) = 1 from rfl, show pkK 1 = true from by decide, show pdK 1 = true from by decide, show pvK 1 = true from by decide, if_true, h, h2, hd]
    rw [IntWalk.i64_in _ (by omega), show (false || decide ((0 : Int) ≠ 0)) = false from by decide, tk_ok hm]
  · rw [hf] at e
    injection e with e1 e2
    injection e2 with e2 e3
    cases e3
theorem b_val {r k u u2 : Bs} {n : Int} {v : Vl} {m : Nat} {f : Int} (h : kyS (r, false) = (k, u, false)) (hf : fxS u = (n, u2, true)) (hd : decV u2 = (v, m, f)) (hz : f ≠ 0) : bad (1 :: r) := by
  rcases fx_split u with ⟨N, u', e, h1, h2, h3⟩ | ⟨e, _⟩
  · rw [hf] at e
    injection e with e1 e2
    injection e2 with e2 e3
    subst e1 e2
    refine bad_fl ?_
    unfold efS r3 r2 r1 rK vlS
    rw [k1]
    simp only [show (((1 : UInt8).toNat : Nat) : Int) = 1 from rfl, show pkK 1 = true from by decide, show pdK 1 = true from by decide, show pvK 1 = true from by decide, if_true, h, h2, hd]
    rw [show (false || decide (f ≠ 0)) = true from by simp [hz], tk_bad]
  · rw [hf] at e
    injection e with e1 e2
    injection e2 with e2 e3
    cases e3
theorem b_due {c : UInt8} {r k u : Bs} (hk : pkK (c.toNat : Int) = true) (hd : pdK (c.toNat : Int) = true) (h : kyS (r, false) = (k, u, false)) (hf : (fxS u).2.2 = false) : bad (c :: r) := by
  have e1 : (r1 (c :: r, false)) = (k, u, false) := by
    unfold r1
    rw [rk, if_pos hk, k1]
    exact h
  rcases fx_split u with ⟨N, u', e, _⟩ | ⟨_, e | ⟨N, u', h1, h2, e, h3⟩⟩
  · rw [e] at hf; cases hf
  · refine bad_fl (fl2 ?_)
    unfold r2
    rw [rk, if_pos hd, e1]
    exact e
  · refine bad_may ?_
    have e2 : (efS (c :: r, false)).1.due = IntKind.i64.wrap (N : Int) := by
      show (r2 (c :: r, false)).1 = _
      unfold r2
      rw [rk, if_pos hd, e1]
      simp only
      rw [e]
    have e3 : dueOk (IntKind.i64.wrap (N : Int)) = false := by
      rw [IntKind.wrap_i64]
      unfold dueOk
      simp only [Bool.and_eq_false_iff, decide_eq_false_iff_not]
      omega
    unfold mayE
    rw [kd_of, rk, hd, e2]
    unfold dueB
    rw [if_pos rfl, e3]
    simp
theorem no_bad {s : Bs} {f : Ef} {u : Bs} (h : efS (s, false) = (f, u, false)) : bad s ↔ mayE f = false := by
  unfold bad
  rw [h]
  simp
theorem dec_le {u : Bs} {v : Vl} {m : Nat} {f : Int} (h : decV u = (v, m, f)) : m ≤ u.length := by
  unfold decV at h
  cases e : decS u with
  | none =>
    rw [e] at h
    injection h with h1 h2
    injection h2 with h2 h3
    omega
  | some q =>
    obtain ⟨x, n⟩ := q
    rw [e] at h
    injection h with h1 h2
    injection h2 with h2 h3
    have := (dec_some e).2.2.1
    omega
end Go.Proofs.YtpnigkjmofhmbabGreat.DTakM
end
section
namespace Go.Proofs.YtpnigkjmofhmbabGreat.RChk
open Go.RowKit Go.Maps
open Go.Proofs.YtpnigkjmofhmbabGreat.SetMath
open Go.Proofs.YtpnigkjmofhmbabGreat.ValueMath
open Go.Proofs.YtpnigkjmofhmbabGreat.Base
open Go.Proofs.YtpnigkjmofhmbabGreat.Vals
open Go.Proofs.YtpnigkjmofhmbabGreat.May
set_option linter.unusedVariables false
set_option linter.unusedSimpArgs false

def emp (x : Vl) : Bool := if x.kind = 1 then false else if x.kind = 2 ∨ x.kind = 4 then decide (x.list.length = 0) else if x.kind = 3 then decide (x.fields.length = 0) else if x.kind = 5 then decide (x.ranked.length = 0) else true
set_option maxHeartbeats 2000000 in
set_option maxRecDepth 100000 in
theorem empty_raw (k : Int) (X : ByteArray) (aa ba ca : Option Addr) (an bn cn ac bc cc : Nat) (w : World) :
    Calls Tryz.prog 88 #[.agg #[.int .i64 k, .string X, .slice aa an ac, .slice ba bn bc, .slice ca cn cc]] w fun e w' => e = .returned (.bool (if k = 1 then false else if k = 2 ∨ k = 4 then decide (an = 0) else if k = 3 then decide (bn = 0) else if k = 5 then decide (cn = 0) else true)) ∧ Below w.heap.size w w' := by
  by_cases h1 : k = 1
  · rw [if_pos h1]
    subst h1
    go_enter Tryz.func88, Tryz.ntmps88
    go_wp2
    go_ret
    exact ⟨rfl, FRow.bnew w _⟩
  · rw [if_neg h1]
    have e1 : (k == 1) = false := by simpa using h1
    by_cases h2 : k = 2
    · rw [if_pos (Or.inl h2)]
      subst h2
      go_enter Tryz.func88, Tryz.ntmps88
      go_wp2
      go_ret
      exact ⟨ret_b (by rw [Bool.eq_iff_iff]; simp), FRow.bnew w _⟩
    · have e2 : (k == 2) = false := by simpa using h2
      by_cases h4 : k = 4
      · rw [if_pos (Or.inr h4)]
        subst h4
        go_enter Tryz.func88, Tryz.ntmps88
        go_wp2
        go_ret
        exact ⟨ret_b (by rw [Bool.eq_iff_iff]; simp), FRow.bnew w _⟩
      · rw [if_neg (by omega)]
        have e4 : (k == 4) = false := by simpa using h4
        by_cases h3 : k = 3
        · rw [if_pos h3]
          subst h3
          go_enter Tryz.func88, Tryz.ntmps88
          go_wp2
          go_ret
          exact ⟨ret_b (by rw [Bool.eq_iff_iff]; simp), FRow.bnew w _⟩
        · rw [if_neg h3]
          have e3 : (k == 3) = false := by simpa using h3
          by_cases h5 : k = 5
          · rw [if_pos h5]
            subst h5
            go_enter Tryz.func88, Tryz.ntmps88
            go_wp2
            go_ret
            exact ⟨ret_b (by rw [Bool.eq_iff_iff]; simp), FRow.bnew w _⟩
          · rw [if_neg h5]
            have e5 : (k == 5) = false := by simpa using h5
            go_enter Tryz.func88, Tryz.ntmps88
            go_wp2
            go_ret
            exact ⟨rfl, FRow.bnew w _⟩
/- fields: each, then all -/
def fAt (l : FL) (k : Nat) : Bool := match l[k]? with
  | none => true
  | some e => tOk e.1 && (tOk e.2 && (k == 0 || match l[k - 1]? with
    | none => true
    | some a => decide (a.1 < e.1)))
theorem fAt_at {l : FL} {k : Nat} (hk : k < l.length) : fAt l k = (tOk l[k].1 && (tOk l[k].2 && (k == 0 || decide ((l[k - 1]'(by omega)).1 < l[k].1)))) := by
  unfold fAt
  rw [List.getElem?_eq_getElem hk, List.getElem?_eq_getElem (show k - 1 < l.length by omega)]
def fAll (l : FL) : Bool := (List.range l.length).all (fAt l)
theorem fAll_no {l : FL} {k : Nat} (hk : k < l.length) (h : fAt l k = false) : fAll l = false := by
  unfold fAll
  cases e : (List.range l.length).all (fAt l)
  · rfl
  · rw [List.all_eq_true.1 e k (List.mem_range.2 hk)] at h
    cases h
theorem fAll_yes {l : FL} (h : ∀ j, j < l.length → fAt l j = true) : fAll l = true := List.all_eq_true.2 fun j hj => h j (List.mem_range.1 hj)
theorem fn_at (l : FL) (k : Nat) (h : k < (fnames l).length) : (fnames l)[k] = (l[k]'(by simpa [fnames] using h)).1 := by simp [fnames]
theorem fAll_hash {l : FL} (h : 0 < l.length) : fAll l = hashOk l := by
  rw [Bool.eq_iff_iff]
  unfold hashOk setOk lOk
  simp only [Bool.and_eq_true, List.all_eq_true, decide_eq_true_eq]
  constructor
  · intro q
    have q' : ∀ j (hj : j < l.length), fAt l j = true := fun j hj => List.all_eq_true.1 q j (List.mem_range.2 hj)
    refine ⟨fun p hp => ?_, ⟨fun t ht => ?_, by unfold fnames; simpa using h⟩, ?_⟩
    · obtain ⟨j, hj, rfl⟩ := List.getElem_of_mem hp
      have := q' j hj
      rw [fAt_at hj] at this
      simp only [Bool.and_eq_true] at this
      exact this.2.1
    · obtain ⟨p, hp, rfl⟩ := List.mem_map.1 ht
      obtain ⟨j, hj, rfl⟩ := List.getElem_of_mem hp
      have := q' j hj
      rw [fAt_at hj] at this
      simp only [Bool.and_eq_true] at this
      exact this.1
    · refine Small.adj_ris fun k hk => ?_
      have hk' : k + 1 < l.length := by unfold fnames at hk; simpa using hk
      have := q' (k + 1) hk'
      rw [fAt_at hk'] at this
      simp only [Bool.and_eq_true, Bool.or_eq_true, decide_eq_true_eq] at this
      rw [fn_at, fn_at]
      rcases this.2.2 with q | q
      · simp at q
      · exact q
  · rintro ⟨h1, ⟨h2, _⟩, h3⟩
    refine fAll_yes fun j hj => ?_
    rw [fAt_at hj]
    simp only [Bool.and_eq_true, Bool.or_eq_true, decide_eq_true_eq]
    refine ⟨h2 _ (List.mem_map.2 ⟨l[j], List.getElem_mem hj, rfl⟩), h1 _ (List.getElem_mem hj), ?_⟩
    by_cases h0 : j = 0
    · left; simpa using h0
    · right
      have := ris_at (l := fnames l) h3 (i := j - 1) (j := j) (by omega) (by unfold fnames; simpa using hj)
      rw [fn_at, fn_at] at this
      exact this
set_option maxHeartbeats 8000000 in
set_option maxRecDepth 100000 in
theorem fields_call {w : World} {v : Value} {l : FL} (h : FRow.FS w v l) (hb : l.length ≤ 140737488355328) (hs : Fok l) :
    Calls Tryz.prog 90 #[v] w fun e w' => e = .returned (.bool (fAll l)) ∧ Below w.heap.size w w' := by
  have HF := hid_of h
  have HS := hid_of hs
  obtain ⟨a, c, rfl, hc, hr⟩ := h
  obtain ⟨L, HL⟩ : ∃ L, Hid (L = List.length l) := ⟨_, hid_of rfl⟩
  rw [← HL.out] at hb hc HF ⊢
  clear hr hs hc
  go_enter Tryz.func90, Tryz.ntmps90
  go_wp2_with fail
  go_loopg [3] L (fun g s3 wx => ∃ j : Nat, j ≤ L ∧ L ≤ j + g ∧ s3 = .int .i64 (j : Int) ∧ Hid (∀ i, i < j → fAt l i = true) ∧ Hid (Below w.heap.size w wx))
  case atStart => exact ⟨0, by omega, by omega, rfl, hid_of (fun i hi => by omega), hid_of (Below.refl _ _)⟩
  case round =>
    obtain ⟨j, hj, hg, rfl, HA, R⟩ := hrel
    by_cases hlt : j < L
    · obtain ⟨g', rfl⟩ : ∃ g', gk = g' + 1 := ⟨gk - 1, by omega⟩
      have hjl : j < List.length l := by rw [← HL.out]; exact hlt
      obtain ⟨ga, oa, rfl, ha⟩ := FRow.FS.at (HF.out.below R.out) hjl
      obtain ⟨a0, a1⟩ := ha j hjl
      obtain ⟨p0, p1⟩ := ha (j - 1) (by omega)
      clear ha
      have HO := hid_of (fAt_at hjl)
      have HN : Hid (fAt l j = true → ∀ i, i < j + 1 → fAt l i = true) := hid_of fun q i hi => by
        by_cases e : i = j
        · subst e; exact q
        · exact HA.out i (by omega)
      have HX : Hid (fAt l j = false → fAll l = false) := hid_of fun q => fAll_no hjl q
      have hs1 := HS.out.n _ (List.getElem_mem hjl)
      have hs2 := HS.out.v _ (List.getElem_mem hjl)
      generalize l[j - 1]'(by omega) = z at *
      generalize l[j] = x at *
      obtain ⟨x1, x2⟩ := x
      obtain ⟨z1, z2⟩ := z
      simp only at a0 a1 HN HX HO p0 p1 hs1 hs2
      have w1 : IntKind.i64.wrap ((j : Int) + 1) = (j : Int) + 1 := IntWalk.i64_in _ (by omega)
      have d1 : (j : Int) < (L : Int) := by omega
      have ll := str_lt z1 x1
      have m1 := mk_size x1
      have m2 := mk_size x2
      have k1 : decide ((1048576 : Int) < ((mk x1).size : Int)) = !tOk x1 := by unfold tOk; rw [m1, Bool.eq_iff_iff]; simp; omega
      have k2 : decide ((1048576 : Int) < ((mk x2).size : Int)) = !tOk x2 := by unfold tOk; rw [m2, Bool.eq_iff_iff]; simp; omega
      clear m1 m2 hs1 hs2
      generalize mk x1 = X1 at *
      generalize mk x2 = X2 at *
      generalize mk z1 = Z1 at *
      generalize mk z2 = Z2 at *
      generalize tOk x1 = b1 at *
      generalize tOk x2 = b2 at *
      generalize decide (z1 < x1) = b3 at *
      have fin : Hid (fAt l j = false → fAll l = false) := HX
      have wz : IntKind.i64.wrap ((j : Int) - 1) = ((j - 1 : Nat) : Int) ∨ j = 0 := by
        by_cases h0 : j = 0
        · exact Or.inr h0
        · left; rw [show ((j - 1 : Nat) : Int) = (j : Int) - 1 by omega]; exact IntWalk.i64_in _ (by omega)
      cases b1
      · have HZ := hid_of (HX.out (by rw [HO.out]; rfl))
        simp only [Bool.not_false] at k1
        clear HX HN HO fin wz k2 ll p0 p1
        go_wp2_with fail
        go_quiet (fail)
        go_wp2_with fail
        go_ret
        exact ⟨ret_b HZ.out.symm, FRow.bdrew R.out nq⟩
      · simp only [Bool.not_true] at k1
        cases b2
        · have HZ := hid_of (HX.out (by rw [HO.out]; rfl))
          simp only [Bool.not_false] at k2
          clear HX HN HO fin wz ll p0 p1
          go_wp2_with fail
          go_quiet (fail)
          go_wp2_with fail
          go_ret
          exact ⟨ret_b HZ.out.symm, FRow.bdrew R.out nq⟩
        · simp only [Bool.not_true] at k2
          by_cases h0 : j = 0
          · have h00 : decide ((0 : Int) < (j : Int)) = false := decide_eq_false (by omega)
            have h01 : decide (0 < j) = false := decide_eq_false (by omega)
            have HZ := hid_of (HN.out (by rw [HO.out, h0]; rfl))
            clear HX HN HO fin wz ll p0 p1 h0
            go_wp2_with fail
            go_quiet (fail)
            go_wp2_with fail
            go_roundg g'
            case measure => omega
            case rel => exact ⟨j + 1, by omega, by omega, by simp, HZ, hid_of (FRow.bdrew R.out nq)⟩
          · have h00 : decide ((0 : Int) < (j : Int)) = true := decide_eq_true (by omega)
            have h01 : decide (0 < j) = true := decide_eq_true (by omega)
            have wz' := wz.resolve_right h0
            have hj0 : (j == 0) = false := by simpa using h0
            have ix : j - 1 < L := by omega
            have HO2 := hid_of (HO.out.trans (by rw [hj0]; rfl : _ = b3))
            clear HO hj0 wz fin h0
            cases b3
            · have HZ := hid_of (HX.out HO2.out)
              clear HX HN HO2
              go_wp2_with fail
              go_quiet (fail)
              go_wp2_with fail
              go_ret
              exact ⟨ret_b HZ.out.symm, FRow.bdrew R.out nq⟩
            · have HZ := hid_of (HN.out HO2.out)
              clear HX HN HO2
              go_wp2_with fail
              go_quiet (fail)
              go_wp2_with fail
              go_roundg g'
              case measure => omega
              case rel => exact ⟨j + 1, by omega, by omega, by simp, HZ, hid_of (FRow.bdrew R.out nq)⟩
    · obtain rfl : j = L := by omega
      have d1 : ¬ (j : Int) < (j : Int) := by omega
      have HT : Hid (fAll l = true) := hid_of (fAll_yes fun i hi => HA.out i (by have := HL.out; omega))
      go_wp2_with fail
      go_ret
      exact ⟨ret_b HT.out.symm, R.out⟩
end Go.Proofs.YtpnigkjmofhmbabGreat.RChk
end
