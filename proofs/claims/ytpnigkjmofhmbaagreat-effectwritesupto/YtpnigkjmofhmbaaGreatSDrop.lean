/- Drop and SetDue of a space without a mark; Due, Counter. -/
import Derived.Test.YtpnigkjmofhmbaaGreatDecM
namespace Go.Proofs.YtpnigkjmofhmbaaGreat.SDrop
open Go.RowKit Go.Maps
open Go.Proofs.YtpnigkjmofhmbaaGreat.SpaceMath (wout withL lkp keys Ris toD)
open Go.Proofs.YtpnigkjmofhmbaaGreat.ValueMath (Vl chk small)
open Go.Proofs.YtpnigkjmofhmbaaGreat.Base (mk mk_list mk_size Gr hid_of)
open Go.Proofs.YtpnigkjmofhmbaaGreat.Turn
open Go.Proofs.YtpnigkjmofhmbaaGreat.RowB (Es)
open Go.Proofs.YtpnigkjmofhmbaaGreat.Vals
open Go.Proofs.YtpnigkjmofhmbaaGreat.Check0 (Wel)
open Go.Proofs.YtpnigkjmofhmbaaGreat.SBase
open Go.Proofs.YtpnigkjmofhmbaaGreat.SFind
open Go.Proofs.YtpnigkjmofhmbaaGreat.SMath
open Go.Proofs.YtpnigkjmofhmbaaGreat.SSet
open Go.Proofs.YtpnigkjmofhmbaaGreat.STouch
open Go.Proofs.YtpnigkjmofhmbaaGreat.SPut
set_option linter.unusedVariables false
set_option linter.unusedSimpArgs false
theorem dn_below {F X : Nat → Prop} {b : Nat} {w w1 w2 : World} {S : Sp} (h : Dn F X b w w1 S) (hb : Below w1.heap.size w1 w2) : Dn F X b w w2 S := by
  obtain ⟨F6, s6, ev6, n6⟩ := h
  exact ⟨F6, s6.below hb, ev6.trans (Ev.of_below hb), n6⟩
/-- first new memory, then a call -/
theorem dn_after {F X : Nat → Prop} {b : Nat} {w w1 w2 : World} {S : Sp} (hb : Below w.heap.size w w1) (h : Dn F X b w1 w2 S) : Dn F X b w w2 S := by
  obtain ⟨F6, s6, ev6, n6⟩ := h
  exact ⟨F6, s6, (Ev.of_below hb).trans ev6, fun k q => (n6 k q).imp id fun q => Nat.le_trans hb.size q⟩
/-- one call, then another -/
theorem dn_dn {F X : Nat → Prop} {b : Nat} {w w1 w2 : World} {S S' : Sp} (h : Dn F X b w w1 S) (h2 : ∀ F1, SP F1 (fun k => X k ∨ F1 k) b w1 S → Dn F1 (fun k => X k ∨ F1 k) b w1 w2 S') : Dn F X b w w2 S' := by
  obtain ⟨F1, s1, ev1, n1⟩ := h
  exact Dn.trans (S1 := S) ev1 n1 (h2 F1 s1)
set_option maxHeartbeats 1000000 in
set_option maxRecDepth 100000 in
theorem drop_yes {F X : Nat → Prop} {b : Nat} {w : World} {S : Sp} (h : SP F X b w S) (hm : S.mrk = none) (hc : S.cnt + 1 < 18446744073709551616) (k : Bs) (hk : k.length ≤ 281474976710656) {e : En} (he : lkp S.l k = some e) :
    Calls Tryz.prog 13 #[ptr b, .string (mk k)] w fun r w' => r = .returned (.bool true) ∧ Dn F X b w w' ⟨wout S.l k, S.cnt + 1, none⟩ := by
  have H1 := hid_of (find_call h k hk)
  rw [he] at H1
  have HH := hid_of h
  clear h
  go_enter Tryz.func13, Tryz.ntmps13
  go_wp2_with fail
  refine H1.out.mono ?_
  rintro r w1 ⟨v, rfl, hv, hb1⟩
  have hver := (show EnAt X w k v e from hv).ver.1
  obtain ⟨a1, c1, a2, c2, a3, c3, rfl, -⟩ := EnAt.shape hv
  unfold eV
  have H2 := hid_of (there_call (mk k) (mk e.val.text) e.val.kind e.due a1 a2 a3 e.val.list.length c1 e.val.fields.length c2 e.val.ranked.length c3 e.ver w1)
  rw [decide_eq_true hver] at H2
  have HB1 := hid_of hb1
  clear hb1 hv H1
  go_wp2_with fail
  refine H2.out.mono ?_
  rintro r w2 ⟨rfl, hb2⟩
  have HB2 := hid_of (HB1.out.trans (hb2.mono HB1.out.size))
  clear hb2 HB1 H2
  have H3 := hid_of (touch_none (HH.out.below HB2.out) hm hc (mk k))
  go_wp2_with fail
  refine H3.out.mono ?_
  rintro r w3 ⟨rfl, hd3⟩
  have D3 := hid_of (dn_after HB2.out hd3)
  clear hd3 H3
  have H4 : Hid (Calls Tryz.prog 57 #[ptr b, .string (mk k), zE] w3 fun r w' => r = .returned (.tuple #[]) ∧ Dn F X b w w' ⟨wout S.l k, S.cnt + 1, none⟩) := hid_of (by
    obtain ⟨F1, s1, ev1, n1⟩ := D3.out
    refine (set_none s1 k hk).mono ?_
    rintro r w' ⟨rfl, hd⟩
    exact ⟨rfl, Dn.trans (S1 := ⟨S.l, S.cnt + 1, none⟩) ev1 n1 hd⟩)
  unfold zE at H4
  go_wp2_with fail
  refine H4.out.mono ?_
  rintro r w4 ⟨rfl, hd4⟩
  have D4 := hid_of hd4
  clear hd4 H4 D3
  have H5 : Hid (Calls Tryz.prog 58 #[ptr b, .agg #[.int .i64 2, .string (mk k), .int .i64 0, .string ⟨#[]⟩, .slice none 0 0, .slice none 0 0, .slice none 0 0, .int .i64 0]] w4 fun r w' => r = .returned (.tuple #[]) ∧ Below w4.heap.size w4 w') := hid_of (by
    obtain ⟨F6, s6, _, _⟩ := D4.out
    exact note_none s6 rfl _ _ _ _ _ _ _ _ _ _ _ _ _ _)
  go_wp2_with fail
  refine H5.out.mono ?_
  rintro r w5 ⟨rfl, hb5⟩
  have HB5 := hid_of hb5
  clear hb5
  go_wp2_with fail
  go_ret
  exact ⟨rfl, dn_below D4.out HB5.out⟩
set_option maxHeartbeats 1000000 in
set_option maxRecDepth 100000 in
theorem drop_no {F X : Nat → Prop} {b : Nat} {w : World} {S : Sp} (h : SP F X b w S) (k : Bs) (hk : k.length ≤ 281474976710656) (he : lkp S.l k = none) :
    Calls Tryz.prog 13 #[ptr b, .string (mk k)] w fun r w' => r = .returned (.bool false) ∧ Below w.heap.size w w' := by
  have H1 := hid_of (find_call h k hk)
  rw [he] at H1
  clear h
  go_enter Tryz.func13, Tryz.ntmps13
  go_wp2_with fail
  refine H1.out.mono ?_
  rintro r w1 ⟨v, rfl, hv, hb1⟩
  have hv : v = zE := hv
  subst hv
  unfold zE
  have H2 := hid_of (there_call ⟨#[]⟩ ⟨#[]⟩ 0 0 none none none 0 0 0 0 0 0 0 w1)
  rw [decide_eq_false (Nat.lt_irrefl 0)] at H2
  have HB1 := hid_of hb1
  clear hb1 H1
  go_wp2_with fail
  refine H2.out.mono ?_
  rintro r w2 ⟨rfl, hb2⟩
  have HB2 := hid_of (HB1.out.trans (hb2.mono HB1.out.size))
  clear hb2 HB1 H2
  go_wp2_with fail
  go_ret
  exact ⟨rfl, HB2.out⟩
set_option maxRecDepth 100000 in
theorem counter_call {F X : Nat → Prop} {b : Nat} {w : World} {S : Sp} (h : SP F X b w S) : Calls Tryz.prog 20 #[ptr b] w fun r w' => r = .returned (.int .u64 (S.cnt : Int)) ∧ w' = w := by
  have c2 := (sp_cells h).2.1
  clear h
  go_enter Tryz.func20, Tryz.ntmps20
  go_wp2_with fail
  go_ret
  exact ⟨rfl, rfl⟩
theorem en_cells {X : Nat → Prop} {w : World} {k : Bs} {v : Value} {e : En} (h : EnAt X w k v e) : ∃ T kd a1 n1 c1 a2 n2 c2 a3 n3 c3, v = .agg #[.string (mk k), .int .i64 kd, .string T, .slice a1 n1 c1, .slice a2 n2 c2, .slice a3 n3 c3, .int .i64 e.due, .int .u64 (e.ver : Int)] ∧ (∀ d' n' : Nat, True) := by
  obtain ⟨a1, c1, a2, c2, a3, c3, rfl, _⟩ := h.shape
  exact ⟨_, _, _, _, _, _, _, _, _, _, _, rfl, fun _ _ => trivial⟩
abbrev eO (K T : ByteArray) (kd : Int) (A B C : Value) (d : Int) (n : Int) : Obj := .cells #[.string K, .int .i64 kd, .string T, A, B, C, .int .i64 d, .int .u64 n] 63
set_option maxHeartbeats 1000000 in
set_option maxRecDepth 100000 in
theorem due_yes {F X : Nat → Prop} {b : Nat} {w : World} {S : Sp} (h : SP F X b w S) (k : Bs) (hk : k.length ≤ 281474976710656) (now : Int) {e : En} (he : lkp S.l k = some e) (hsn : seenB e.due e.ver now = true) :
    Calls Tryz.prog 10 #[ptr b, .string (mk k), .int .i64 now] w fun r w' => r = .returned (.tuple #[.int .i64 e.due, .bool true]) ∧ Below w.heap.size w w' := by
  have H1 := hid_of (find_call h k hk)
  rw [he] at H1
  clear h
  go_enter Tryz.func10, Tryz.ntmps10
  go_wp2_with fail
  refine H1.out.mono ?_
  rintro r w1 ⟨v, rfl, hv, hb1⟩
  obtain ⟨T, kd, a1, n1, c1, a2, n2, c2, a3, n3, c3, rfl, -⟩ := en_cells hv
  obtain ⟨W, hW⟩ : ∃ W, W = w1.alloc (eO (mk k) T kd (.slice a1 n1 c1) (.slice a2 n2 c2) (.slice a3 n3 c3) e.due (e.ver : Int)) := ⟨_, rfl⟩
  have x0 : W.heap[w1.heap.size]? = some (eO (mk k) T kd (.slice a1 n1 c1) (.slice a2 n2 c2) (.slice a3 n3 c3) e.due (e.ver : Int)) := by rw [hW]; exact heap_alloc_new w1 _
  have H2 := hid_of (seen_call (mk k) T kd e.due now a1 a2 a3 n1 c1 n2 c2 n3 c3 e.ver W)
  rw [hsn] at H2
  have HB1 := hid_of (show Below w.heap.size w W by rw [hW]; exact hb1.trans ((alb w1 _).mono hb1.size))
  have HX := hid_of x0
  have HW := hid_of hW
  clear hb1 hv H1 x0 hW
  go_wp2_with fail
  rw [← HW.out]
  refine H2.out.mono ?_
  rintro r w2 ⟨rfl, hb2⟩
  have HB2 := hid_of (HB1.out.trans (hb2.mono HB1.out.size))
  have c6 : w2.cell? ⟨w1.heap.size, 6, none⟩ = some (.int .i64 e.due) := Lib.cell_of_heap ((hb2.block _ (lt_of HX.out)).trans HX.out) 6
  clear hb2 H2
  go_wp2_with fail
  go_ret2
  exact ⟨rfl, HB2.out⟩
set_option maxHeartbeats 2000000 in
set_option maxRecDepth 100000 in
theorem setdue_yes {F X : Nat → Prop} {b : Nat} {w : World} {S : Sp} (h : SP F X b w S) (hm : S.mrk = none) (hc : S.cnt + 1 < 18446744073709551616) (hS : S.l.length + 1 < 1099511627776) (k : Bs) (hk : k.length ≤ 281474976710656) (d : Int) (hd : 0 ≤ d ∧ d ≤ 9007199254740992) {e : En} (he : lkp S.l k = some e) :
    Calls Tryz.prog 14 #[ptr b, .string (mk k), .int .i64 d] w fun r w' => r = .returned (.bool true) ∧ Dn F X b w w' ⟨withL S.l k ⟨e.val, d, S.cnt + 1⟩, S.cnt + 1, none⟩ := by
  have H1 := hid_of (find_call h k hk)
  rw [he] at H1
  have HH := hid_of h
  have H2 := hid_of (deadline_call d)
  rw [decide_eq_true hd.1, decide_eq_true hd.2] at H2
  have HD := hid_of hd
  clear h hd
  go_enter Tryz.func14, Tryz.ntmps14
  go_wp2_with fail
  refine H1.out.mono ?_
  rintro r w1 ⟨v, rfl, hv, hb1⟩
  have hv : EnAt X w k v e := hv
  have hver := hv.ver.1
  have HG := hid_of hv.gd
  obtain ⟨a1, c1, a2, c2, a3, c3, rfl, hvs⟩ := hv.shape
  have HVS := hid_of hvs
  unfold eV
  unfold vV at HVS
  obtain ⟨T, HT⟩ : ∃ T, Hid (mk e.val.text = T) := ⟨_, hid_of rfl⟩
  obtain ⟨kd, HK⟩ : ∃ kd, Hid (e.val.kind = kd) := ⟨_, hid_of rfl⟩
  rw [HT.out, HK.out] at HVS
  rw [HT.out, HK.out]
  clear hv hvs
  generalize e.val.list.length = n1 at *
  generalize e.val.fields.length = n2 at *
  generalize e.val.ranked.length = n3 at *
  obtain ⟨W, hW⟩ : ∃ W, W = w1.alloc (eO (mk k) T kd (.slice a1 n1 c1) (.slice a2 n2 c2) (.slice a3 n3 c3) e.due (e.ver : Int)) := ⟨_, rfl⟩
  have x0 : W.heap[w1.heap.size]? = some (eO (mk k) T kd (.slice a1 n1 c1) (.slice a2 n2 c2) (.slice a3 n3 c3) e.due (e.ver : Int)) := by rw [hW]; exact heap_alloc_new w1 _
  have H3 := hid_of (there_call (mk k) T kd e.due a1 a2 a3 n1 c1 n2 c2 n3 c3 e.ver W)
  rw [decide_eq_true hver] at H3
  have HB0 := hid_of hb1
  have HB1 := hid_of (show Below w.heap.size w W by rw [hW]; exact hb1.trans ((alb w1 _).mono hb1.size))
  have HX := hid_of x0
  have HW := hid_of hW
  clear hb1 H1 x0 hW
  go_wp2_with fail
  rw [← HW.out]
  refine H3.out.mono ?_
  rintro r w2 ⟨rfl, hb2⟩
  have HB2 := hid_of (HB1.out.trans (hb2.mono HB1.out.size))
  have HX2 := hid_of ((hb2.block _ (lt_of HX.out)).trans HX.out)
  clear hb2 H3
  go_wp2_with fail
  refine (H2.out w2).mono ?_
  rintro r w2 ⟨rfl, rfl⟩
  obtain ⟨B, hB⟩ : ∃ B, B = w1.heap.size := ⟨_, rfl⟩
  have HBB := hid_of hB
  have sm : w.heap.size ≤ B := by rw [hB]; exact HB0.out.size
  have HW2 : Hid (SP F (fun k => X k ∨ k = B) b w2 S) := hid_of (HH.out.re (fun k q => HB2.out.block k (HH.out.lo k q)) (Ev.of_below HB2.out) (fun k hl q => q.elim id (fun q => by omega)) (fun k q => .inl (HH.out.fx k q)) (fun k q => q.elim (fun q => Nat.lt_of_lt_of_le (HH.out.xl k q) HB2.out.size) (fun q => by rw [q, hB]; exact lt_of HX2.out)))
  have H4 := hid_of (touch_none HW2.out hm hc (mk k))
  go_wp2_with fail
  refine H4.out.mono ?_
  rintro r w4 ⟨rfl, F1, s1, ev1, n1'⟩
  have nF : ¬ F B := fun q => by have := HH.out.lo _ q; omega
  have nF1 : ¬ F1 B := fun q => by
    rcases n1' _ q with q | q
    · exact nF q
    · have := lt_of HX2.out
      omega
  have x4 : w4.heap[B]? = some (eO (mk k) T kd (.slice a1 n1 c1) (.slice a2 n2 c2) (.slice a3 n3 c3) e.due (e.ver : Int)) := by
    rw [hB]
    rw [hB] at nF
    exact (ev1.block _ (lt_of HX2.out) nF).trans HX2.out
  have c2' : w4.cell? ⟨b, 2, none⟩ = some (.int .u64 ((S.cnt : Int) + 1)) := (sp_cells s1).2.1
  have hbl : b < w4.heap.size := (sp_cells s1).1
  have nb : b ≠ B := fun q => by
    have := (sp_cells HH.out).1
    omega
  have HX4 := hid_of x4
  obtain ⟨⟨y0, y1, y2, y3, y4, y5, y6, y7⟩, fz⟩ := box8 x4
  have z6 := fz 6
  have z7 := fz 7
  obtain ⟨V, hV⟩ : ∃ V, V = ((w4.setCell ⟨B, 6, none⟩ (.int .i64 d)).setCell ⟨B, 7, none⟩ (.int .u64 ((S.cnt : Int) + 1))).drew := ⟨_, rfl⟩
  have xV : V.heap[B]? = some (eO (mk k) T kd (.slice a1 n1 c1) (.slice a2 n2 c2) (.slice a3 n3 c3) d ((S.cnt : Int) + 1)) := by
    rw [hV]
    show ((w4.setCell ⟨B, 6, none⟩ (.int .i64 d)).setCell ⟨B, 7, none⟩ (.int .u64 ((S.cnt : Int) + 1))).heap[B]? = _
    simpa using set_at (i := 7) (set_at (i := 6) HX4.out (.int .i64 d)) (.int .u64 ((S.cnt : Int) + 1))
  have evV : Ev (fun k => k = B) w4 V := by rw [hV]; exact ((setev w4 B 6 _).trans (setev _ B 7 _)).drew
  have sV : SP F1 (fun k => (X k ∨ k = B) ∨ F1 k) b V ⟨S.l, S.cnt + 1, none⟩ := s1.re (fun k q => evV.block k (s1.lo k q) (fun e => nF1 (by rw [← e]; exact q))) (evV.mono fun k _ q => .inl (.inr q)) (fun k _ q => q) s1.fx (fun k q => Nat.lt_of_lt_of_le (s1.xl k q) evV.size)
  have evF : Ev F w4 V → True := fun _ => trivial
  have ewV : Ev F w V := by
    refine ⟨?_, ?_, ?_, ?_, fun k hl hn => ?_⟩
    · exact evV.os.trans (ev1.os.trans HB2.out.os)
    · exact evV.tape.trans (ev1.tape.trans HB2.out.tape)
    · exact evV.output.trans (ev1.output.trans HB2.out.output)
    · exact Nat.le_trans HB2.out.size (Nat.le_trans ev1.size evV.size)
    · have l2 := Nat.lt_of_lt_of_le hl HB2.out.size
      exact (evV.block k (Nat.lt_of_lt_of_le l2 ev1.size) (fun e => by omega)).trans ((ev1.block k l2 hn).trans (HB2.out.block k hl))
  have H5 : Hid (Calls Tryz.prog 57 #[ptr b, .string (mk k), .agg #[.string (mk k), .int .i64 kd, .string T, .slice a1 n1 c1, .slice a2 n2 c2, .slice a3 n3 c3, .int .i64 d, .int .u64 ((S.cnt : Int) + 1)]] V fun r w' => r = .returned (.tuple #[]) ∧ Dn F X b w w' ⟨withL S.l k ⟨e.val, d, S.cnt + 1⟩, S.cnt + 1, none⟩) := hid_of (by
    have en : EnAt (fun k => (X k ∨ k = B) ∨ F1 k) V k (.agg #[.string (mk k), .int .i64 kd, .string T, .slice a1 n1 c1, .slice a2 n2 c2, .slice a3 n3 c3, .int .i64 d, .int .u64 ((S.cnt + 1 : Nat) : Int)]) ⟨e.val, d, S.cnt + 1⟩ := by
      refine ⟨⟨.slice a1 n1 c1, .slice a2 n2 c2, .slice a3 n3 c3, ?_, ?_⟩, HG.out, HD.out, by show 0 < S.cnt + 1; omega, hc⟩
      · unfold eV
        dsimp only
        rw [HT.out, HK.out]
      · unfold vV
        dsimp only
        rw [HT.out, HK.out]
        refine VS.re HVS.out (ewV.mono fun k _ q => HH.out.fx k q) fun k hl q => ?_
        rcases q with (q | q) | q
        · exact q
        · omega
        · rcases n1' k q with q | q
          · exact HH.out.fx k q
          · have := HB2.out.size
            omega
    refine (set_call sV hS k hk (o := some ⟨e.val, d, S.cnt + 1⟩) en).mono ?_
    rintro r w' ⟨rfl, F6, s6, ev6, n6⟩
    refine ⟨rfl, F6, s6.re (fun _ _ => rfl) (Ev.refl _ _) (fun k _ q => q.elim (fun q => .inl (.inl (.inl q))) .inr) (fun k q => .inr q) (fun k q => q.elim (fun q => s6.xl k (.inl (.inl (.inl q)))) (s6.lo k)), ?_, fun k q => ?_⟩
    · refine ⟨ev6.os.trans ewV.os, ev6.tape.trans ewV.tape, ev6.output.trans ewV.output, Nat.le_trans ewV.size ev6.size, fun k hl hn => (ev6.block k (Nat.lt_of_lt_of_le hl ewV.size) (fun q => ?_)).trans (ewV.block k hl hn)⟩
      rcases n1' k q with q | q
      · exact hn q
      · have := HB2.out.size
        omega
    · rcases n6 k q with q | q
      · rcases n1' k q with q | q
        · exact .inl q
        · exact .inr (Nat.le_trans HB2.out.size q)
      · exact .inr (Nat.le_trans ewV.size q))
  have HXV := hid_of xV
  have HV := hid_of hV
  rw [hB] at x4 y0 y1 y2 y3 y4 y5 y6 y7 z6 z7 nb HV HXV
  clear hV xV evV sV evF ewV x4 s1 ev1 n1' fz H4 HW2 hB nF nF1 HX4
  go_wp2_with fail
  go_region
  rw [← HV.out]
  clear y0 y1 y2 y3 y4 y5 y6 y7 z6 z7 c2'
  obtain ⟨⟨y0, y1, y2, y3, y4, y5, y6, y7⟩, fz⟩ := box8 HXV.out
  clear fz
  go_wp2_with fail
  refine H5.out.mono ?_
  rintro r w6 ⟨rfl, hd6⟩
  have D6 := hid_of hd6
  clear hd6 H5
  have H7 : Hid (Calls Tryz.prog 58 #[ptr b, .agg #[.int .i64 3, .string (mk k), .int .i64 0, .string ⟨#[]⟩, .slice none 0 0, .slice none 0 0, .slice none 0 0, .int .i64 d]] w6 fun r w' => r = .returned (.tuple #[]) ∧ Below w6.heap.size w6 w') := hid_of (by
    obtain ⟨F6, s6, _, _⟩ := D6.out
    exact note_none s6 rfl _ _ _ _ _ _ _ _ _ _ _ _ _ _)
  go_wp2_with fail
  refine H7.out.mono ?_
  rintro r w7 ⟨rfl, hb7⟩
  have HB7 := hid_of hb7
  clear hb7
  go_wp2_with fail
  go_ret
  exact ⟨rfl, dn_below D6.out HB7.out⟩
end Go.Proofs.YtpnigkjmofhmbaaGreat.SDrop
