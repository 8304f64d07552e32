/- What is written is read as it was, what is read is written as it was: no program is met here. -/
import Derived.Test.YtpnigkjmofhmbabGreatEDecM
import Derived.Test.YtpnigkjmofhmbabGreatEEncM
namespace Go.Proofs.YtpnigkjmofhmbabGreat.EBackM
open Go.Proofs.YtpnigkjmofhmbabGreat.SetMath
open Go.Proofs.YtpnigkjmofhmbabGreat.BytesMath
open Go.Proofs.YtpnigkjmofhmbabGreat.FixMath
open Go.Proofs.YtpnigkjmofhmbabGreat.ValueMath
open Go.Proofs.YtpnigkjmofhmbabGreat.ReadMath
open Go.Proofs.YtpnigkjmofhmbabGreat.Check0
open Go.Proofs.YtpnigkjmofhmbabGreat.Dec
open Go.Proofs.YtpnigkjmofhmbabGreat.SBase (Ef)
open Go.Proofs.YtpnigkjmofhmbabGreat.EMay
open Go.Proofs.YtpnigkjmofhmbabGreat.EAll
open Go.Proofs.YtpnigkjmofhmbabGreat.EEnc
open Go.Proofs.YtpnigkjmofhmbabGreat.ERd
open Go.Proofs.YtpnigkjmofhmbabGreat.EEff
open Go.Proofs.YtpnigkjmofhmbabGreat.EDec
set_option linter.unusedVariables false
set_option linter.unusedSimpArgs false
theorem nb1 (c : UInt8) (r : Bs) : nbS 1 (c :: r, false) = (c.toNat, r, false) := nb_some (by omega) (by omega) (rdN1 c r)
theorem nb8 (n : Nat) (r : Bs) (h : n < 18446744073709551616) : nbS 8 (leY n 8 ++ r, false) = (n, r, false) := nb_some (by omega) (by omega) (rdN_app 8 n (by simpa using h) r)
theorem tkA (k r : Bs) : tkS k.length (k ++ r, false) = (k, r, false) := by
  rw [tk_ok (by simp)]
  simp
theorem ky_app (k r : Bs) (h : k.length < 18446744073709551616) : kyS (leY (k.length : Int) 8 ++ k ++ r, false) = (k, r, false) := by
  unfold kyS
  rw [List.append_assoc, nb8 _ _ h]
  exact tkA k r
theorem vl_app (x : Vl) (r : Bs) (h : chk x = 0) (hs : small x) : vlS (enc x ++ r, false) = (x, r, false) := by
  unfold vlS decV
  rw [dec_app x r h hs]
  show (x, (tkS (enc x).length (enc x ++ r, false || decide ((0 : Int) ≠ 0))).2) = _
  rw [show (false || decide ((0 : Int) ≠ 0)) = false from by decide, tkA]
theorem wrap_in {n : Nat} (h : n ≤ 9007199254740992) : IntKind.i64.wrap (n : Int) = n := IntWalk.i64_in _ (by omega)
theorem four {k : Int} (h : okK k = true) : k = 1 ∨ k = 2 ∨ k = 3 ∨ k = 4 := by
  unfold okK at h
  simp only [Bool.or_eq_true, decide_eq_true_eq] at h
  omega
theorem may_cut {f : Ef} (h : mayE f = true) : okK f.kind = true ∧ keyB (pkK f.kind) f.key = true ∧ dueB (pdK f.kind) f.due = true ∧ valB (pvK f.kind) f.val = true := by
  unfold mayE at h
  simp only [Bool.and_eq_true] at h
  exact h
theorem due_nat {d : Int} (h : dueOk d = true) : ∃ n : Nat, d = n ∧ n ≤ 9007199254740992 := by
  unfold dueOk at h
  simp only [Bool.and_eq_true, decide_eq_true_eq] at h
  exact ⟨d.toNat, by omega, by omega⟩
/-- an effect that may be is read as it was -/
theorem ef_app {f : Ef} (r : Bs) (h : mayE f = true) (hn : Nice f) : efS (EWrite.encE f ++ r, false) = (f, r, false) := by
  obtain ⟨h1, h2, h3, h4⟩ := may_cut h
  have hk := hn.key
  have hs := hn.sm
  obtain ⟨k, key, x, d⟩ := f
  simp only at h1 h2 h3 h4 hk hs
  unfold EWrite.encE efS r3 r2 r1 rK
  simp only
  rcases four h1 with rfl | rfl | rfl | rfl
  · rw [show pdK 1 = true from by decide] at h3
    rw [show pvK 1 = true from by decide] at h4
    obtain ⟨n, rfl, hd⟩ := due_nat (by simpa [dueB] using h3)
    have hc : chk x = 0 := by simpa [valB] using h4
    rw [show pkK 1 = true from by decide, show pdK 1 = true from by decide, show pvK 1 = true from by decide, if_pos rfl, if_pos rfl, if_pos rfl]
    rw [show ([UInt8.ofNat (1 : Int).toNat] ++ ((leY (key.length : Int) 8 ++ key) ++ (leY (n : Int) 8 ++ enc x)) ++ r : Bs) = 1 :: (leY (key.length : Int) 8 ++ key ++ (leY (n : Int) 8 ++ (enc x ++ r))) from by simp]
    rw [nb1]
    simp only [show ((((1 : UInt8).toNat : Nat)) : Int) = 1 from rfl, show pkK 1 = true from by decide, show pdK 1 = true from by decide, show pvK 1 = true from by decide, if_true]
    rw [ky_app _ _ (by omega)]
    simp only
    rw [nb8 _ _ (by omega)]
    simp only
    rw [vl_app x r hc hs, wrap_in hd]
  · rw [show pdK 2 = false from by decide] at h3
    rw [show pvK 2 = false from by decide] at h4
    have hd : d = 0 := by simpa [dueB] using h3
    have hc : x = zV := (sm_iff _ _).1 (by simpa [valB] using h4)
    subst hd hc
    rw [show pkK 2 = true from by decide, show pdK 2 = false from by decide, show pvK 2 = false from by decide, if_pos rfl, if_neg (by decide), if_neg (by decide)]
    rw [show ([UInt8.ofNat (2 : Int).toNat] ++ ((leY (key.length : Int) 8 ++ key) ++ ([] ++ [])) ++ r : Bs) = 2 :: (leY (key.length : Int) 8 ++ key ++ r) from by simp]
    rw [nb1]
    simp only [show ((((2 : UInt8).toNat : Nat)) : Int) = 2 from rfl, show pkK 2 = true from by decide, show pdK 2 = false from by decide, show pvK 2 = false from by decide, if_true, if_false, Bool.false_eq_true]
    rw [ky_app _ _ (by omega)]
  · rw [show pdK 3 = true from by decide] at h3
    rw [show pvK 3 = false from by decide] at h4
    obtain ⟨n, rfl, hd⟩ := due_nat (by simpa [dueB] using h3)
    have hc : x = zV := (sm_iff _ _).1 (by simpa [valB] using h4)
    subst hc
    rw [show pkK 3 = true from by decide, show pdK 3 = true from by decide, show pvK 3 = false from by decide, if_pos rfl, if_pos rfl, if_neg (by decide)]
    rw [show ([UInt8.ofNat (3 : Int).toNat] ++ ((leY (key.length : Int) 8 ++ key) ++ (leY (n : Int) 8 ++ [])) ++ r : Bs) = 3 :: (leY (key.length : Int) 8 ++ key ++ (leY (n : Int) 8 ++ r)) from by simp]
    rw [nb1]
    simp only [show ((((3 : UInt8).toNat : Nat)) : Int) = 3 from rfl, show pkK 3 = true from by decide, show pdK 3 = true from by decide, show pvK 3 = false from by decide, if_true, if_false, Bool.false_eq_true]
    rw [ky_app _ _ (by omega)]
    simp only
    rw [nb8 _ _ (by omega)]
    simp only
    rw [wrap_in hd]
  · rw [show pdK 4 = false from by decide] at h3
    rw [show pvK 4 = false from by decide] at h4
    rw [show pkK 4 = false from by decide] at h2
    have hd : d = 0 := by simpa [dueB] using h3
    have hc : x = zV := (sm_iff _ _).1 (by simpa [valB] using h4)
    have hy : key = [] := by simpa [keyB] using h2
    subst hd hc hy
    rw [show pkK 4 = false from by decide, show pdK 4 = false from by decide, show pvK 4 = false from by decide, if_neg (by decide), if_neg (by decide), if_neg (by decide)]
    rw [show ([UInt8.ofNat (4 : Int).toNat] ++ ([] ++ ([] ++ [])) ++ r : Bs) = 4 :: r from by simp]
    rw [nb1]
    simp only [show ((((4 : UInt8).toNat : Nat)) : Int) = 4 from rfl, show pkK 4 = false from by decide, show pdK 4 = false from by decide, show pvK 4 = false from by decide, if_false, Bool.false_eq_true]
theorem dc_enc {l : List Ef} (h : allE l = true) (hn : ∀ f ∈ l, Nice f) : dcL (encL l) = some l := by
  induction l with
  | nil => exact dc_nil
  | cons f r ih =>
    have h' : mayE f = true ∧ allE r = true := by simpa [allE] using h
    have e : encL (f :: r) = EWrite.encE f ++ encL r := by unfold encL; rw [List.flatMap_cons]
    have e2 := ef_app (encL r) h'.1 (hn f List.mem_cons_self)
    have ne : EWrite.encE f ++ encL r ≠ [] := by unfold EWrite.encE; simp
    rw [e, dc_yes ne (by rw [e2]; simp [h'.1]), e2]
    show (dcL (encL r)).map (f :: ·) = _
    rw [ih h'.2 fun g hg => hn g (List.mem_cons_of_mem _ hg)]
    rfl
/- the other way -/
theorem tk_inv {n : Nat} {s : RS} (h : (tkS n s).2.2 = false) : s.2 = false ∧ n ≤ s.1.length ∧ tkS n s = (s.1.take n, s.1.drop n, false) := by
  obtain ⟨r, f⟩ := s
  cases f with
  | true => rw [tk_bad] at h; cases h
  | false =>
    by_cases hl : r.length < n
    · rw [tk_no _ hl] at h; cases h
    · exact ⟨rfl, Nat.le_of_not_lt hl, tk_ok (Nat.le_of_not_lt hl)⟩
theorem nb_inv {n : Nat} {s : RS} (h1 : 1 ≤ n) (h8 : n ≤ 8) (h : (nbS n s).2.2 = false) : s.2 = false ∧ s.1 = leY ((nbS n s).1 : Int) n ++ (nbS n s).2.1 ∧ (nbS n s).1 < 256 ^ n := by
  obtain ⟨e1, e2, e3⟩ := tk_inv (show (tkS n s).2.2 = false from h)
  obtain ⟨r, f⟩ := s
  obtain rfl : f = false := e1
  have e : rdN n r = some (leN (r.take n), r.drop n) := by unfold rdN; rw [if_neg (Nat.not_lt.2 e2)]
  rw [nb_some h1 h8 e]
  exact ⟨rfl, rdN_some e⟩
theorem ky_inv {s : RS} (h : (kyS s).2.2 = false) : s.2 = false ∧ s.1 = leY ((kyS s).1.length : Int) 8 ++ (kyS s).1 ++ (kyS s).2.1 := by
  unfold kyS at *
  obtain ⟨e1, e2, e3⟩ := tk_inv h
  obtain ⟨g1, g2, g3⟩ := nb_inv (n := 8) (by omega) (by omega) e1
  refine ⟨g1, ?_⟩
  rw [e3]
  simp only
  rw [List.length_take_of_le e2, List.append_assoc, List.take_append_drop]
  exact g2
theorem vl_inv {s : RS} (h : (vlS s).2.2 = false) : s.2 = false ∧ s.1 = enc (vlS s).1 ++ (vlS s).2.1 ∧ chk (vlS s).1 = 0 ∧ small (vlS s).1 ∧ Wel (vlS s).1 := by
  unfold vlS at *
  obtain ⟨e1, e2, e3⟩ := tk_inv h
  simp only at e1 e2 e3
  rw [Bool.or_eq_false_iff] at e1
  obtain ⟨g1, g2⟩ := e1
  cases hd : decS s.1 with
  | none => unfold decV at g2; rw [hd] at g2; simp at g2
  | some q =>
    obtain ⟨v, n⟩ := q
    obtain ⟨c1, c2, c3, c4, c5⟩ := dec_some hd
    have ev : decV s.1 = (v, n, 0) := by unfold decV; rw [hd]
    have hw : Wel v := by
      unfold decS at hd
      obtain ⟨⟨v', r⟩, y1, y2⟩ := Option.bind_eq_some_iff.1 hd
      simp only at y2
      split at y2
      · injection y2 with y2
        injection y2 with y3 y4
        subst y3
        exact val_wel y1
      · cases y2
    rw [ev] at e3 e2 ⊢
    simp only at e3 e2 ⊢
    rw [e3]
    refine ⟨g1, ?_, c1, c2, hw⟩
    simp only
    rw [c4, List.take_append_drop]
theorem zv_wel : Wel zV := by
  refine { l := ?_, f := ?_, r := ?_, t := ?_, ls := ?_, fs := ?_, rs := ?_, r24 := ?_ }
  all_goals first
    | (simp [zV]; done)
    | (simp [zV, FRow.big, ERow.big]; done)
    | (intro y hy; simp [zV] at hy; done)
    | (exact ⟨fun p hp => by simp [zV] at hp, fun p hp => by simp [zV] at hp⟩)
theorem zv_small : small zV := ⟨by decide, by decide, by decide⟩
theorem byte_of (c : UInt8) (k : Int) (h : ((c.toNat : Nat) : Int) = k) : UInt8.ofNat k.toNat = c := by
  subst h
  simp
/-- what is read of bytes is written as it was -/
theorem ef_inv {s : Bs} (hs : s ≠ []) (h : (efS (s, false)).2.2 = false) (hm : mayE (efS (s, false)).1 = true) (hl : s.length ≤ 140737488355328) : s = EWrite.encE (efS (s, false)).1 ++ (efS (s, false)).2.1 ∧ Nice (efS (s, false)).1 := by
  obtain ⟨h1, h2, h3, h4⟩ := may_cut hm
  cases s with
  | nil => exact absurd rfl hs
  | cons c r =>
    have hb := nb1 c r
    clear hm
    unfold efS r3 r2 r1 rK at h h1 h2 h3 h4 ⊢
    simp only [hb] at h h1 h2 h3 h4 ⊢
    clear hb
    have hbk := byte_of c _ rfl
    generalize ((c.toNat : Nat) : Int) = k at *
    rcases four h1 with rfl | rfl | rfl | rfl
    · simp only [show pkK 1 = true from by decide, show pdK 1 = true from by decide, show pvK 1 = true from by decide, if_true] at *
      obtain ⟨a1, a2, a3, a4, a5⟩ := vl_inv h
      obtain ⟨b1, b2, b3⟩ := nb_inv (n := 8) (by omega) (by omega) a1
      obtain ⟨c1, c2⟩ := ky_inv b1
      obtain ⟨n, hd, hn⟩ := due_nat (by simpa [dueB] using h3)
      simp only at c2
      refine ⟨?_, ⟨?_, a5, a4⟩⟩
      · unfold EWrite.encE
        simp only [show pkK 1 = true from by decide, show pdK 1 = true from by decide, show pvK 1 = true from by decide, if_true]
        have hw : IntKind.i64.wrap ((nbS 8 (kyS (r, false)).2).1 : Int) = ((nbS 8 (kyS (r, false)).2).1 : Int) := by
          have b4 : (nbS 8 (kyS (r, false)).2).1 < 18446744073709551616 := by simpa using b3
          by_cases hx : (nbS 8 (kyS (r, false)).2).1 ≤ 9223372036854775807
          · exact IntWalk.i64_in _ (by omega)
          · exfalso
            rw [IntKind.wrap_i64] at hd
            omega
        rw [hw, hbk]
        simp only [List.cons_append, List.nil_append, List.append_assoc]
        congr 1
        rw [← a2, ← b2]
        rw [← List.append_assoc]
        exact c2
      · have := congrArg List.length c2
        simp only [List.length_append, List.length_cons] at this hl ⊢
        omega
    · simp only [show pkK 2 = true from by decide, show pdK 2 = false from by decide, show pvK 2 = false from by decide, if_true, if_false, Bool.false_eq_true] at *
      obtain ⟨c1, c2⟩ := ky_inv h
      simp only at c2
      refine ⟨?_, ⟨?_, zv_wel, zv_small⟩⟩
      · unfold EWrite.encE
        simp only [show pkK 2 = true from by decide, show pdK 2 = false from by decide, show pvK 2 = false from by decide, if_true, if_false, Bool.false_eq_true]
        rw [hbk]
        simp only [List.cons_append, List.nil_append, List.append_assoc, List.append_nil]
        congr 1
      · have := congrArg List.length c2
        simp only [List.length_append, List.length_cons] at this hl ⊢
        omega
    · simp only [show pkK 3 = true from by decide, show pdK 3 = true from by decide, show pvK 3 = false from by decide, if_true, if_false, Bool.false_eq_true] at *
      obtain ⟨b1, b2, b3⟩ := nb_inv (n := 8) (by omega) (by omega) h
      obtain ⟨c1, c2⟩ := ky_inv b1
      obtain ⟨n, hd, hn⟩ := due_nat (by simpa [dueB] using h3)
      simp only at c2
      refine ⟨?_, ⟨?_, zv_wel, zv_small⟩⟩
      · unfold EWrite.encE
        simp only [show pkK 3 = true from by decide, show pdK 3 = true from by decide, show pvK 3 = false from by decide, if_true, if_false, Bool.false_eq_true]
        have hw : IntKind.i64.wrap ((nbS 8 (kyS (r, false)).2).1 : Int) = ((nbS 8 (kyS (r, false)).2).1 : Int) := by
          have b4 : (nbS 8 (kyS (r, false)).2).1 < 18446744073709551616 := by simpa using b3
          by_cases hx : (nbS 8 (kyS (r, false)).2).1 ≤ 9223372036854775807
          · exact IntWalk.i64_in _ (by omega)
          · exfalso
            rw [IntKind.wrap_i64] at hd
            omega
        rw [hw, hbk]
        simp only [List.cons_append, List.nil_append, List.append_assoc, List.append_nil]
        congr 1
        rw [← b2]
        rw [← List.append_assoc]
        exact c2
      · have := congrArg List.length c2
        simp only [List.length_append, List.length_cons] at this hl ⊢
        omega
    · simp only [show pkK 4 = false from by decide, show pdK 4 = false from by decide, show pvK 4 = false from by decide, if_false, Bool.false_eq_true] at *
      refine ⟨?_, ⟨by simp, zv_wel, zv_small⟩⟩
      unfold EWrite.encE
      simp only [show pkK 4 = false from by decide, show pdK 4 = false from by decide, show pvK 4 = false from by decide, if_false, Bool.false_eq_true]
      rw [hbk]
      simp
theorem dc_some : ∀ (n : Nat) (s : Bs) (l : List Ef), s.length ≤ n → s.length ≤ 140737488355328 → dcL s = some l → allE l = true ∧ encL l = s ∧ ∀ f ∈ l, Nice f := by
  intro n
  induction n with
  | zero =>
    intro s l hn hl h
    have : s = [] := List.length_eq_zero_iff.1 (by omega)
    subst this
    rw [dc_nil] at h
    injection h with h
    subst h
    exact ⟨rfl, rfl, fun f hf => by cases hf⟩
  | succ n ih =>
    intro s l hn hl h
    by_cases hs : s = []
    · subst hs
      rw [dc_nil] at h
      injection h with h
      subst h
      exact ⟨rfl, rfl, fun f hf => by cases hf⟩
    · cases hb : ((efS (s, false)).2.2 || !mayE (efS (s, false)).1) with
      | true => rw [dc_no hs hb] at h; cases h
      | false =>
        rw [dc_yes hs hb] at h
        rw [Bool.or_eq_false_iff] at hb
        have hm : mayE (efS (s, false)).1 = true := by simpa using hb.2
        obtain ⟨e1, e2⟩ := ef_inv hs hb.1 hm hl
        have hlt := ef_lt hs hb.1
        obtain ⟨m, h1, rfl⟩ := Option.map_eq_some_iff.1 h
        obtain ⟨i1, i2, i3⟩ := ih _ m (by omega) (by omega) h1
        refine ⟨by simp [allE, hm]; simpa [allE] using i1, ?_, fun f hf => ?_⟩
        · have e : encL ((efS (s, false)).1 :: m) = EWrite.encE (efS (s, false)).1 ++ encL m := by unfold encL; rw [List.flatMap_cons]
          rw [e, i2]
          exact e1.symm
        · rcases List.mem_cons.1 hf with rfl | hf
          · exact e2
          · exact i3 f hf
end Go.Proofs.YtpnigkjmofhmbabGreat.EBackM
