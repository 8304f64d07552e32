/- Drop and SetDue of a space without a mark; Due, Counter. rising: the keys whose entries are wanted, in their order. -/
import Derived.Test.YtpnigkjmofhmbabGreatDecM
import Derived.Test.YtpnigkjmofhmbabGreatShelf
import Derived.Maps.RangeWalk
import Derived.Sort.KeysCollected
section
namespace Go.Proofs.YtpnigkjmofhmbabGreat.SDrop
open Go.RowKit Go.Maps
open Go.Proofs.YtpnigkjmofhmbabGreat.SpaceMath (wout withL lkp keys Ris toD)
open Go.Proofs.YtpnigkjmofhmbabGreat.ValueMath (Vl chk small)
open Go.Proofs.YtpnigkjmofhmbabGreat.Base (mk mk_list mk_size Gr hid_of)
open Go.Proofs.YtpnigkjmofhmbabGreat.Turn
open Go.Proofs.YtpnigkjmofhmbabGreat.RowB (Es)
open Go.Proofs.YtpnigkjmofhmbabGreat.Vals
open Go.Proofs.YtpnigkjmofhmbabGreat.Check0 (Wel)
open Go.Proofs.YtpnigkjmofhmbabGreat.SBase
open Go.Proofs.YtpnigkjmofhmbabGreat.SFind
open Go.Proofs.YtpnigkjmofhmbabGreat.SMath
open Go.Proofs.YtpnigkjmofhmbabGreat.SSet
open Go.Proofs.YtpnigkjmofhmbabGreat.STouch
open Go.Proofs.YtpnigkjmofhmbabGreat.SPut
set_option linter.unusedVariables false
set_option linter.unusedSimpArgs false
theorem dn_below {F X : Nat → Prop} {b : Nat} {w w1 w2 : World} {S : Sp} (h : Dn F X b w w1 S) (hb : Below w1.heap.size w1 w2) : Dn F X b w w2 S := by
  obtain ⟨F6, s6, ev6, n6⟩ := h
  exact ⟨F6, s6.below hb, ev6.trans (Ev.of_below hb), n6⟩
/-- first new memory, then a call -/
theorem dn_after {F X : Nat → Prop} {b : Nat} {w w1 w2 : World} {S : Sp} (hb : Below w.heap.size w w1) (h : Dn F X b w1 w2 S) : Dn F X b w w2 S := by
  obtain ⟨F6, s6, ev6, n6⟩ := h
  exact ⟨F6, s6, (Ev.of_below hb).trans ev6, fun k q => (n6 k q).imp id fun q => Nat.le_trans hb.size q⟩
/-- one call, then another -/
theorem dn_dn {F X : Nat → Prop} {b : Nat} {w w1 w2 : World} {S S' : Sp} (h : Dn F X b w w1 S) (h2 : ∀ F1, SP F1 (fun k => X k ∨ F1 k) b w1 S → Dn F1 (fun k => X k ∨ F1 k) b w1 w2 S') : Dn F X b w w2 S' := by
  obtain ⟨F1, s1, ev1, n1⟩ := h
  exact Dn.trans (S1 := S) ev1 n1 (h2 F1 s1)
set_option maxHeartbeats 1000000 in
set_option maxRecDepth 100000 in
theorem drop_yes {F X : Nat → Prop} {b : Nat} {w : World} {S : Sp} (h : SP F X b w S) (hm : S.mrk = none) (hc : S.cnt + 1 < 18446744073709551616) (k : Bs) (hk : k.length ≤ 281474976710656) {e : En} (he : lkp S.l k = some e) :
    Calls Tryz.prog 72 #[ptr b, .string (mk k)] w fun r w' => r = .returned (.bool true) ∧ Dn F X b w w' ⟨wout S.l k, S.cnt + 1, none⟩ := by
  have H1 := hid_of (find_call h k hk)
  rw [he] at H1
  have HH := hid_of h
  clear h
  go_enter Tryz.func72, Tryz.ntmps72
  go_wp2_with fail
  refine H1.out.mono ?_
  rintro r w1 ⟨v, rfl, hv, hb1⟩
  have hver := (show EnAt X w k v e from hv).ver.1
  obtain ⟨a1, c1, a2, c2, a3, c3, rfl, -⟩ := EnAt.shape hv
  unfold eV
  have H2 := hid_of (there_call (mk k) (mk e.val.text) e.val.kind e.due a1 a2 a3 e.val.list.length c1 e.val.fields.length c2 e.val.ranked.length c3 e.ver w1)
  rw [decide_eq_true hver] at H2
  have HB1 := hid_of hb1
  clear hb1 hv H1
  go_wp2_with fail
  refine H2.out.mono ?_
  rintro r w2 ⟨rfl, hb2⟩
  have HB2 := hid_of (HB1.out.trans (hb2.mono HB1.out.size))
  clear hb2 HB1 H2
  have H3 := hid_of (touch_none (HH.out.below HB2.out) hm hc (mk k))
  go_wp2_with fail
  refine H3.out.mono ?_
  rintro r w3 ⟨rfl, hd3⟩
  have D3 := hid_of (dn_after HB2.out hd3)
  clear hd3 H3
  have H4 : Hid (Calls Tryz.prog 38 #[ptr b, .string (mk k), zE] w3 fun r w' => r = .returned (.tuple #[]) ∧ Dn F X b w w' ⟨wout S.l k, S.cnt + 1, none⟩) := hid_of (by
    obtain ⟨F1, s1, ev1, n1⟩ := D3.out
    refine (set_none s1 k hk).mono ?_
    rintro r w' ⟨rfl, hd⟩
    exact ⟨rfl, Dn.trans (S1 := ⟨S.l, S.cnt + 1, none⟩) ev1 n1 hd⟩)
  unfold zE at H4
  go_wp2_with fail
  refine H4.out.mono ?_
  rintro r w4 ⟨rfl, hd4⟩
  have D4 := hid_of hd4
  clear hd4 H4 D3
  have H5 : Hid (Calls Tryz.prog 96 #[ptr b, .agg #[.int .i64 2, .string (mk k), .int .i64 0, .string ⟨#[]⟩, .slice none 0 0, .slice none 0 0, .slice none 0 0, .int .i64 0]] w4 fun r w' => r = .returned (.tuple #[]) ∧ Below w4.heap.size w4 w') := hid_of (by
    obtain ⟨F6, s6, _, _⟩ := D4.out
    exact note_none s6 rfl _ _ _ _ _ _ _ _ _ _ _ _ _ _)
  go_wp2_with fail
  refine H5.out.mono ?_
  rintro r w5 ⟨rfl, hb5⟩
  have HB5 := hid_of hb5
  clear hb5
  go_wp2_with fail
  go_ret
  exact ⟨rfl, dn_below D4.out HB5.out⟩
set_option maxHeartbeats 1000000 in
set_option maxRecDepth 100000 in
theorem drop_no {F X : Nat → Prop} {b : Nat} {w : World} {S : Sp} (h : SP F X b w S) (k : Bs) (hk : k.length ≤ 281474976710656) (he : lkp S.l k = none) :
    Calls Tryz.prog 72 #[ptr b, .string (mk k)] w fun r w' => r = .returned (.bool false) ∧ Below w.heap.size w w' := by
  have H1 := hid_of (find_call h k hk)
  rw [he] at H1
  clear h
  go_enter Tryz.func72, Tryz.ntmps72
  go_wp2_with fail
  refine H1.out.mono ?_
  rintro r w1 ⟨v, rfl, hv, hb1⟩
  have hv : v = zE := hv
  subst hv
  unfold zE
  have H2 := hid_of (there_call ⟨#[]⟩ ⟨#[]⟩ 0 0 none none none 0 0 0 0 0 0 0 w1)
  rw [decide_eq_false (Nat.lt_irrefl 0)] at H2
  have HB1 := hid_of hb1
  clear hb1 H1
  go_wp2_with fail
  refine H2.out.mono ?_
  rintro r w2 ⟨rfl, hb2⟩
  have HB2 := hid_of (HB1.out.trans (hb2.mono HB1.out.size))
  clear hb2 HB1 H2
  go_wp2_with fail
  go_ret
  exact ⟨rfl, HB2.out⟩
set_option maxRecDepth 100000 in
theorem counter_call {F X : Nat → Prop} {b : Nat} {w : World} {S : Sp} (h : SP F X b w S) : Calls Tryz.prog 20 #[ptr b] w fun r w' => r = .returned (.int .u64 (S.cnt : Int)) ∧ w' = w := by
  have c2 := (sp_cells h).2.1
  clear h
  go_enter Tryz.func20, Tryz.ntmps20
  go_wp2_with fail
  go_ret
  exact ⟨rfl, rfl⟩
theorem en_cells {X : Nat → Prop} {w : World} {k : Bs} {v : Value} {e : En} (h : EnAt X w k v e) : ∃ T kd a1 n1 c1 a2 n2 c2 a3 n3 c3, v = .agg #[.string (mk k), .int .i64 kd, .string T, .slice a1 n1 c1, .slice a2 n2 c2, .slice a3 n3 c3, .int .i64 e.due, .int .u64 (e.ver : Int)] ∧ (∀ d' n' : Nat, True) := by
  obtain ⟨a1, c1, a2, c2, a3, c3, rfl, _⟩ := h.shape
  exact ⟨_, _, _, _, _, _, _, _, _, _, _, rfl, fun _ _ => trivial⟩
abbrev eO (K T : ByteArray) (kd : Int) (A B C : Value) (d : Int) (n : Int) : Obj := .cells #[.string K, .int .i64 kd, .string T, A, B, C, .int .i64 d, .int .u64 n] 81
set_option maxHeartbeats 1000000 in
set_option maxRecDepth 100000 in
theorem due_yes {F X : Nat → Prop} {b : Nat} {w : World} {S : Sp} (h : SP F X b w S) (k : Bs) (hk : k.length ≤ 281474976710656) (now : Int) {e : En} (he : lkp S.l k = some e) (hsn : seenB e.due e.ver now = true) :
    Calls Tryz.prog 29 #[ptr b, .string (mk k), .int .i64 now] w fun r w' => r = .returned (.tuple #[.int .i64 e.due, .bool true]) ∧ Below w.heap.size w w' := by
  have H1 := hid_of (find_call h k hk)
  rw [he] at H1
  clear h
  go_enter Tryz.func29, Tryz.ntmps29
  go_wp2_with fail
  refine H1.out.mono ?_
  rintro r w1 ⟨v, rfl, hv, hb1⟩
  obtain ⟨T, kd, a1, n1, c1, a2, n2, c2, a3, n3, c3, rfl, -⟩ := en_cells hv
  obtain ⟨W, hW⟩ : ∃ W, W = w1.alloc (eO (mk k) T kd (.slice a1 n1 c1) (.slice a2 n2 c2) (.slice a3 n3 c3) e.due (e.ver : Int)) := ⟨_, rfl⟩
  have x0 : W.heap[w1.heap.size]? = some (eO (mk k) T kd (.slice a1 n1 c1) (.slice a2 n2 c2) (.slice a3 n3 c3) e.due (e.ver : Int)) := by rw [hW]; exact heap_alloc_new w1 _
  have H2 := hid_of (seen_call (mk k) T kd e.due now a1 a2 a3 n1 c1 n2 c2 n3 c3 e.ver W)
  rw [hsn] at H2
  have HB1 := hid_of (show Below w.heap.size w W by rw [hW]; exact hb1.trans ((alb w1 _).mono hb1.size))
  have HX := hid_of x0
  have HW := hid_of hW
  clear hb1 hv H1 x0 hW
  go_wp2_with fail
  rw [← HW.out]
  refine H2.out.mono ?_
  rintro r w2 ⟨rfl, hb2⟩
  have HB2 := hid_of (HB1.out.trans (hb2.mono HB1.out.size))
  have c6 : w2.cell? ⟨w1.heap.size, 6, none⟩ = some (.int .i64 e.due) := Lib.cell_of_heap ((hb2.block _ (lt_of HX.out)).trans HX.out) 6
  clear hb2 H2
  go_wp2_with fail
  go_ret2
  exact ⟨rfl, HB2.out⟩
set_option maxHeartbeats 2000000 in
set_option maxRecDepth 100000 in
theorem setdue_yes {F X : Nat → Prop} {b : Nat} {w : World} {S : Sp} (h : SP F X b w S) (hm : S.mrk = none) (hc : S.cnt + 1 < 18446744073709551616) (hS : S.l.length + 1 < 1099511627776) (k : Bs) (hk : k.length ≤ 281474976710656) (d : Int) (hd : 0 ≤ d ∧ d ≤ 9007199254740992) {e : En} (he : lkp S.l k = some e) :
    Calls Tryz.prog 73 #[ptr b, .string (mk k), .int .i64 d] w fun r w' => r = .returned (.bool true) ∧ Dn F X b w w' ⟨withL S.l k ⟨e.val, d, S.cnt + 1⟩, S.cnt + 1, none⟩ := by
  have H1 := hid_of (find_call h k hk)
  rw [he] at H1
  have HH := hid_of h
  have H2 := hid_of (deadline_call d)
  rw [decide_eq_true hd.1, decide_eq_true hd.2] at H2
  have HD := hid_of hd
  clear h hd
  go_enter Tryz.func73, Tryz.ntmps73
  go_wp2_with fail
  refine H1.out.mono ?_
  rintro r w1 ⟨v, rfl, hv, hb1⟩
  have hv : EnAt X w k v e := hv
  have hver := hv.ver.1
  have HG := hid_of hv.gd
  obtain ⟨a1, c1, a2, c2, a3, c3, rfl, hvs⟩ := hv.shape
  have HVS := hid_of hvs
  unfold eV
  unfold vV at HVS
  obtain ⟨T, HT⟩ : ∃ T, Hid (mk e.val.text = T) := ⟨_, hid_of rfl⟩
  obtain ⟨kd, HK⟩ : ∃ kd, Hid (e.val.kind = kd) := ⟨_, hid_of rfl⟩
  rw [HT.out, HK.out] at HVS
  rw [HT.out, HK.out]
  clear hv hvs
  generalize e.val.list.length = n1 at *
  generalize e.val.fields.length = n2 at *
  generalize e.val.ranked.length = n3 at *
  obtain ⟨W, hW⟩ : ∃ W, W = w1.alloc (eO (mk k) T kd (.slice a1 n1 c1) (.slice a2 n2 c2) (.slice a3 n3 c3) e.due (e.ver : Int)) := ⟨_, rfl⟩
  have x0 : W.heap[w1.heap.size]? = some (eO (mk k) T kd (.slice a1 n1 c1) (.slice a2 n2 c2) (.slice a3 n3 c3) e.due (e.ver : Int)) := by rw [hW]; exact heap_alloc_new w1 _
  have H3 := hid_of (there_call (mk k) T kd e.due a1 a2 a3 n1 c1 n2 c2 n3 c3 e.ver W)
  rw [decide_eq_true hver] at H3
  have HB0 := hid_of hb1
  have HB1 := hid_of (show Below w.heap.size w W by rw [hW]; exact hb1.trans ((alb w1 _).mono hb1.size))
  have HX := hid_of x0
  have HW := hid_of hW
  clear hb1 H1 x0 hW
  go_wp2_with fail
  rw [← HW.out]
  refine H3.out.mono ?_
  rintro r w2 ⟨rfl, hb2⟩
  have HB2 := hid_of (HB1.out.trans (hb2.mono HB1.out.size))
  have HX2 := hid_of ((hb2.block _ (lt_of HX.out)).trans HX.out)
  clear hb2 H3
  go_wp2_with fail
  refine (H2.out w2).mono ?_
  rintro r w2 ⟨rfl, rfl⟩
  obtain ⟨B, hB⟩ : ∃ B, B = w1.heap.size := ⟨_, rfl⟩
  have HBB := hid_of hB
  have sm : w.heap.size ≤ B := by rw [hB]; exact HB0.out.size
  have HW2 : Hid (SP F (fun k => X k ∨ k = B) b w2 S) := hid_of (HH.out.re (fun k q => HB2.out.block k (HH.out.lo k q)) (Ev.of_below HB2.out) (fun k hl q => q.elim id (fun q => by omega)) (fun k q => .inl (HH.out.fx k q)) (fun k q => q.elim (fun q => Nat.lt_of_lt_of_le (HH.out.xl k q) HB2.out.size) (fun q => by rw [q, hB]; exact lt_of HX2.out)))
  have H4 := hid_of (touch_none HW2.out hm hc (mk k))
  go_wp2_with fail
  refine H4.out.mono ?_
  rintro r w4 ⟨rfl, F1, s1, ev1, n1'⟩
  have nF : ¬ F B := fun q => by have := HH.out.lo _ q; omega
  have nF1 : ¬ F1 B := fun q => by
    rcases n1' _ q with q | q
    · exact nF q
    · have := lt_of HX2.out
      omega
  have x4 : w4.heap[B]? = some (eO (mk k) T kd (.slice a1 n1 c1) (.slice a2 n2 c2) (.slice a3 n3 c3) e.due (e.ver : Int)) := by
    rw [hB]
    rw [hB] at nF
    exact (ev1.block _ (lt_of HX2.out) nF).trans HX2.out
  have c2' : w4.cell? ⟨b, 2, none⟩ = some (.int .u64 ((S.cnt : Int) + 1)) := (sp_cells s1).2.1
  have hbl : b < w4.heap.size := (sp_cells s1).1
  have nb : b ≠ B := fun q => by
    have := (sp_cells HH.out).1
    omega
  have HX4 := hid_of x4
  obtain ⟨⟨y0, y1, y2, y3, y4, y5, y6, y7⟩, fz⟩ := box8 x4
  have z6 := fz 6
  have z7 := fz 7
  obtain ⟨V, hV⟩ : ∃ V, V = ((w4.setCell ⟨B, 6, none⟩ (.int .i64 d)).setCell ⟨B, 7, none⟩ (.int .u64 ((S.cnt : Int) + 1))).drew := ⟨_, rfl⟩
  have xV : V.heap[B]? = some (eO (mk k) T kd (.slice a1 n1 c1) (.slice a2 n2 c2) (.slice a3 n3 c3) d ((S.cnt : Int) + 1)) := by
    rw [hV]
    show ((w4.setCell ⟨B, 6, none⟩ (.int .i64 d)).setCell ⟨B, 7, none⟩ (.int .u64 ((S.cnt : Int) + 1))).heap[B]? = _
    simpa using set_at (i := 7) (set_at (i := 6) HX4.out (.int .i64 d)) (.int .u64 ((S.cnt : Int) + 1))
  have evV : Ev (fun k => k = B) w4 V := by rw [hV]; exact ((setev w4 B 6 _).trans (setev _ B 7 _)).drew
  have sV : SP F1 (fun k => (X k ∨ k = B) ∨ F1 k) b V ⟨S.l, S.cnt + 1, none⟩ := s1.re (fun k q => evV.block k (s1.lo k q) (fun e => nF1 (by rw [← e]; exact q))) (evV.mono fun k _ q => .inl (.inr q)) (fun k _ q => q) s1.fx (fun k q => Nat.lt_of_lt_of_le (s1.xl k q) evV.size)
  have evF : Ev F w4 V → True := fun _ => trivial
  have ewV : Ev F w V := by
    refine ⟨?_, ?_, ?_, ?_, fun k hl hn => ?_⟩
    · exact evV.os.trans (ev1.os.trans HB2.out.os)
    · exact evV.tape.trans (ev1.tape.trans HB2.out.tape)
    · exact evV.output.trans (ev1.output.trans HB2.out.output)
    · exact Nat.le_trans HB2.out.size (Nat.le_trans ev1.size evV.size)
    · have l2 := Nat.lt_of_lt_of_le hl HB2.out.size
      exact (evV.block k (Nat.lt_of_lt_of_le l2 ev1.size) (fun e => by omega)).trans ((ev1.block k l2 hn).trans (HB2.out.block k hl))
  have H5 : Hid (Calls Tryz.prog 38 #[ptr b, .string (mk k), .agg #[.string (mk k), .int .i64 kd, .string T, .slice a1 n1 c1, .slice a2 n2 c2, .slice a3 n3 c3, .int .i64 d, .int .u64 ((S.cnt : Int) + 1)]] V fun r w' => r = .returned (.tuple #[]) ∧ Dn F X b w w' ⟨withL S.l k ⟨e.val, d, S.cnt + 1⟩, S.cnt + 1, none⟩) := hid_of (by
    have en : EnAt (fun k => (X k ∨ k = B) ∨ F1 k) V k (.agg #[.string (mk k), .int .i64 kd, .string T, .slice a1 n1 c1, .slice a2 n2 c2, .slice a3 n3 c3, .int .i64 d, .int .u64 ((S.cnt + 1 : Nat) : Int)]) ⟨e.val, d, S.cnt + 1⟩ := by
      refine ⟨⟨.slice a1 n1 c1, .slice a2 n2 c2, .slice a3 n3 c3, ?_, ?_⟩, HG.out, HD.out, by show 0 < S.cnt + 1; omega, hc⟩
      · unfold eV
        dsimp only
        rw [HT.out, HK.out]
      · unfold vV
        dsimp only
        rw [HT.out, HK.out]
        refine VS.re HVS.out (ewV.mono fun k _ q => HH.out.fx k q) fun k hl q => ?_
        rcases q with (q | q) | q
        · exact q
        · omega
        · rcases n1' k q with q | q
          · exact HH.out.fx k q
          · have := HB2.out.size
            omega
    refine (set_call sV hS k hk (o := some ⟨e.val, d, S.cnt + 1⟩) en).mono ?_
    rintro r w' ⟨rfl, F6, s6, ev6, n6⟩
    refine ⟨rfl, F6, s6.re (fun _ _ => rfl) (Ev.refl _ _) (fun k _ q => q.elim (fun q => .inl (.inl (.inl q))) .inr) (fun k q => .inr q) (fun k q => q.elim (fun q => s6.xl k (.inl (.inl (.inl q)))) (s6.lo k)), ?_, fun k q => ?_⟩
    · refine ⟨ev6.os.trans ewV.os, ev6.tape.trans ewV.tape, ev6.output.trans ewV.output, Nat.le_trans ewV.size ev6.size, fun k hl hn => (ev6.block k (Nat.lt_of_lt_of_le hl ewV.size) (fun q => ?_)).trans (ewV.block k hl hn)⟩
      rcases n1' k q with q | q
      · exact hn q
      · have := HB2.out.size
        omega
    · rcases n6 k q with q | q
      · rcases n1' k q with q | q
        · exact .inl q
        · exact .inr (Nat.le_trans HB2.out.size q)
      · exact .inr (Nat.le_trans ewV.size q))
  have HXV := hid_of xV
  have HV := hid_of hV
  rw [hB] at x4 y0 y1 y2 y3 y4 y5 y6 y7 z6 z7 nb HV HXV
  clear hV xV evV sV evF ewV x4 s1 ev1 n1' fz H4 HW2 hB nF nF1 HX4
  go_wp2_with fail
  go_region
  rw [← HV.out]
  clear y0 y1 y2 y3 y4 y5 y6 y7 z6 z7 c2'
  obtain ⟨⟨y0, y1, y2, y3, y4, y5, y6, y7⟩, fz⟩ := box8 HXV.out
  clear fz
  go_wp2_with fail
  refine H5.out.mono ?_
  rintro r w6 ⟨rfl, hd6⟩
  have D6 := hid_of hd6
  clear hd6 H5
  have H7 : Hid (Calls Tryz.prog 96 #[ptr b, .agg #[.int .i64 3, .string (mk k), .int .i64 0, .string ⟨#[]⟩, .slice none 0 0, .slice none 0 0, .slice none 0 0, .int .i64 d]] w6 fun r w' => r = .returned (.tuple #[]) ∧ Below w6.heap.size w6 w') := hid_of (by
    obtain ⟨F6, s6, _, _⟩ := D6.out
    exact note_none s6 rfl _ _ _ _ _ _ _ _ _ _ _ _ _ _)
  go_wp2_with fail
  refine H7.out.mono ?_
  rintro r w7 ⟨rfl, hb7⟩
  have HB7 := hid_of hb7
  clear hb7
  go_wp2_with fail
  go_ret
  exact ⟨rfl, dn_below D6.out HB7.out⟩
end Go.Proofs.YtpnigkjmofhmbabGreat.SDrop
end
section
namespace Go.Proofs.YtpnigkjmofhmbabGreat.SRise
open Go.RowKit Go.Maps Go.Sort
open Go.Proofs.YtpnigkjmofhmbabGreat.SpaceMath (wout withL lkp keys Ris toD ok has_D at_D size_D keys_D ris_keys sort_keys)
open Go.Proofs.YtpnigkjmofhmbabGreat.Base (mk mk_list mk_size Gr hid_of)
open Go.Proofs.YtpnigkjmofhmbabGreat.Turn
open Go.Proofs.YtpnigkjmofhmbabGreat.RowB (Es)
open Go.Proofs.YtpnigkjmofhmbabGreat.Swap (law9)
open Go.Proofs.YtpnigkjmofhmbabGreat.SBase
open Go.Proofs.YtpnigkjmofhmbabGreat.SFind
open Go.Proofs.YtpnigkjmofhmbabGreat.SMath
open Go.Proofs.YtpnigkjmofhmbabGreat.SSet
open Go.Proofs.YtpnigkjmofhmbabGreat.SDrop
set_option linter.unusedVariables false
set_option linter.unusedSimpArgs false
theorem bel_grown {w w' : World} (h : Below w.heap.size w w') : w.grownBy w' none := ⟨h.os, h.tape, h.output, h.size, fun k hk _ => h.block k hk⟩
/-- the keys whose entries are wanted -/
def wantB (l : KL En) (p : En → Bool) (k : Bs) : Bool := ((lkp l k).map p).getD false
def RisE (ks : List Bs) (w : World) (e : Ending) (w' : World) : Prop := ∃ v, e = .returned v ∧ w'.ownsRow w.heap.size 9 1 v ks.length (ks.map encStr) ∧ Below w.heap.size w w'
theorem end_perm {L : KL Value} {P : Bs → Bool} (hr : Ris L) {ss all : List Bs} (hs : ss = all.filter P) (hp : all.Perm (strKeys (toD L))) : ss.mergeSort leB = (keys L).filter P := by
  have h1 : ss.Perm ((keys L).filter P) := by rw [hs, ← keys_D]; exact hp.filter P
  rw [mergeSort_of_perm h1]
  exact sort_keys (List.Pairwise.sublist List.filter_sublist (ris_keys hr))
/-- what comes up in the round -/
theorem comes {X : Nat → Prop} {w : World} {L : KL Value} {l : KL En} (ent : ∀ k, Two (EnAt X w k) (lkp L k) (lkp l k)) {x : Bs} {c : Value} {y : DataW Value × List MemPlace} (hv : RH c = some y) (hat : ∀ zd, (toD L).atKey (.string x) zd = y.1) : ∃ e, lkp l x = some e ∧ EnAt X w x c e := by
  have hh : has (toD L) (.string x) = true := has_true_of_atKey hat
  rw [has_D] at hh
  have ha := hat (.held zE)
  rw [at_D] at ha
  have hy : y = (.held c, []) := by unfold RH at hv; cases hv; rfl
  rw [hy] at ha
  have ha : (lkp L x).getD zE = c := by injection ha
  have := ent x
  unfold ok at hh
  cases h1 : lkp L x with
  | none => rw [h1] at hh; cases hh
  | some v =>
    rw [h1] at this ha
    cases h2 : lkp l x with
    | none => rw [h2] at this; exact absurd this (by simp [Two])
    | some e =>
      rw [h2] at this
      have ha : v = c := ha
      subst ha
      exact ⟨e, rfl, this⟩
set_option maxRecDepth 100000 in
theorem rising_nil (K : Value) (w : World) : Calls Tryz.prog 75 #[.pointer none, K] w fun e w' => e = .returned (.slice none 0 0) ∧ w' = w := by
  go_enter Tryz.func75, Tryz.ntmps75
  go_wp2
  go_ret
  exact ⟨rfl, rfl⟩
theorem info9 : (Tryz.prog.info? 9).map (fun i => (i.zero, i.size, i.bytes)) = some (some (.string ⟨#[]⟩), 1, 16) := by kernel_rfl
set_option maxRecDepth 100000 in
set_option maxHeartbeats 4000000 in
theorem rising_there {F X : Nat → Prop} {b : Nat} {w : World} {S : Sp} (h : SP F X b w S) (hmax : S.l.length < 8796093022208) :
    Calls Tryz.prog 75 #[ptr b, .func (.func 44) #[] #[]] w fun e w' => RisE ((keys S.l).filter (wantB S.l (fun _ => true))) w e w' := by
  obtain ⟨i0, hi, hz0, hz1, hz2⟩ := FRow.parts_of info9
  obtain ⟨FI, bm, bi, mv, L, s, h⟩ := h
  have hown := h.map
  have hbl := hown.lt
  have c0 : w.cell? ⟨b, 0, none⟩ = some (.map (some bm)) := Lib.cell_of_heap h.blk 0
  have HR := hid_of (And.intro h.ris (two_keys h.ris h.ris2 h.ent))
  have hlen : L.length < 8796093022208 := by rw [spa_len h]; exact hmax
  have HSZ := hid_of (size_D L)
  have HE := hid_of h.ent
  obtain ⟨D0, hD0⟩ : ∃ D0, D0 = toD L := ⟨_, rfl⟩
  have HD := hid_of hD0
  rw [← hD0] at hown HSZ
  clear hD0 h
  go_enter Tryz.func75, Tryz.ntmps75
  go_wp2_with (first
    | (at_range; refine wpList_range_own _ rfl _ 74 rfl 9 81 law9 Tryz.underlying74 _ bm L.length _ rfl hown ?_; intro w0 hrg0 hg0 hs0)
    | go_in)
  go_frame
  go_loopw [5] (fun v wr => ∃ (left : Lit → Bool) (cnt : Nat) (ss all : List (List UInt8)), wr.ranges Tryz.prog 9 RH bm w.heap.size L.length D0 left cnt ∧ ss.length + cnt ≤ Maps.size D0 ∧
      wr.ownsRow w.heap.size 9 1 v ss.length (ss.map encStr) ∧ Hid (ss = all.filter (wantB S.l (fun _ => true))) ∧ Collected D0 left all ∧ Below w.heap.size w wr)
    (fun _ wr => wr.rangeLeft bm w.heap.size)
  case atStart =>
    exact ⟨_, _, [], [], hrg0, by simp, World.ownsRow_nil _ _ _ _, hid_of rfl, Collected.start D0, (Below.refl _ _).grown hg0 (Nat.le_refl _) (fun j hj => by cases hj)⟩
  case round =>
    obtain ⟨left, cnt, ss, all, hrg, hcs0, hrow, HSS, hC, hnx⟩ := hrel
    have hcs : ss.length + cnt ≤ L.length := by rw [HSZ.out] at hcs0; exact hcs0
    clear hcs0
    go_wp2_with (first
      | (at_next; refine wpList_next_ranges _ rfl _ rfl 9 law9 RH encStr (fun c : Value => c) (fun key kl hk => by obtain ⟨x, hx, _⟩ := Maps.keyOf_str Tryz.underlying9 hk; exact ⟨x, hx⟩) (fun v y _ => ⟨v, rfl⟩) bm w.heap.size L.length _ _ _ rfl hrg ?_ ?_)
      | go_in)
    · intro hcn hl0
      have HP := hid_of (end_perm HR.out.1 HSS.out (by have := hC.perm hown law9 Tryz.underlying9 hl0; rw [HD.out] at this; exact this))
      rw [HR.out.2] at HP
      rcases hrow.2 with ⟨rfl, h0⟩ | ⟨g, cap, cur, rfl, hbase, hb, h1, h2, h3, h4⟩
      · have hc := Tryz.slices_Sort_string_none none 0 wr
        have hss : ss = [] := List.length_eq_zero_iff.1 h0
        subst hss
        clear hrow h0
        go_wp2_with (go_at_call 97; refine hc.mono ?_; rintro e w' ⟨rfl, rfl⟩)
        go_ret
        refine ⟨.slice none 0 0, rfl, ?_, hnx⟩
        rw [← HP.out, List.mergeSort_nil]
        exact World.ownsRow_nil _ _ _ _
      · have hH : Holds encStr wr g 0 ss.toArray := holds_of_block hb (by simpa using h4)
        have hgl : g < wr.heap.size := (Array.getElem?_eq_some_iff.1 hb).1
        have hc := Tryz.slices_Sort_string g 0 cap ss wr hH hgl (by omega)
        go_wp2_with (go_at_call 97; refine hc.mono ?_; rintro e w' ⟨rfl, nn, os, rfl⟩)
        go_ret
        refine ⟨.slice (some ⟨g, 0, none⟩) ss.length cap, rfl, ?_, hnx.grown (grownBy_sorted _) hnx.size (fun j hj => by cases hj; exact hbase)⟩
        have e1 : ss.mergeSort (fun x y => decide (x ≤ y)) = (keys S.l).filter (wantB S.l (fun _ => true)) := HP.out
        have e2 : ((keys S.l).filter (wantB S.l (fun _ => true))).length = ss.length := by rw [← e1, List.length_mergeSort]
        rw [e2, ← e1]
        exact ownsRow_sorted (by simp) hbase hb h1 h2 h3
    · intro x c kl yd yp w2 cnt2 hkey hlk hv hat hrg2 hlt hg2 hs2 hen
      obtain ⟨x', ex, rfl, _⟩ := Maps.keyOf_str Tryz.underlying9 hkey
      obtain rfl : x = x' := encStr_inj ex
      have hrow2 := hrow.kept hg2 (Or.inr (row_ne_iter hrow hrg).symm)
      clear hs2
      have hnx2 := hnx.grown hg2 hnx.size (fun j hj => by cases hj; exact Nat.le_refl _)
      obtain ⟨e, he, hE⟩ := comes HE.out hv (by rw [← HD.out]; exact hat)
      have hver := hE.ver.1
      obtain ⟨T, kd, a1, n1, c1, a2, n2, c2, a3, n3, c3, rfl, -⟩ := en_cells hE
      obtain ⟨WB, hWB⟩ : ∃ WB, WB = w2.alloc (eO (mk x) T kd (.slice a1 n1 c1) (.slice a2 n2 c2) (.slice a3 n3 c3) e.due (e.ver : Int)) := ⟨_, rfl⟩
      have hrow2a := hid_of (show WB.ownsRow w.heap.size 9 1 _ ss.length (ss.map encStr) by rw [hWB]; exact hrow2.alloc _)
      have hrg2a := hid_of (show WB.ranges Tryz.prog 9 RH bm w.heap.size L.length D0 _ cnt2 by rw [hWB]; exact hrg2.alloc _)
      have hnx2a := hid_of (show Below w.heap.size w WB by rw [hWB]; exact hnx2.alloc hnx2.size _)
      have HC := hid_of (there_call (mk x) T kd e.due a1 a2 a3 n1 c1 n2 c2 n3 c3 e.ver WB)
      rw [decide_eq_true hver] at HC
      have HWB := hid_of hWB
      clear hE hrow2 hrg2 hnx2 hWB
      have HS2 : Hid (ss ++ [x] = (all ++ [x]).filter (wantB S.l (fun _ => true))) := by show _ = _; rw [List.filter_append, ← HSS.out]; simp [wantB, he]
      clear he
      go_wp2_with fail
      rw [← HWB.out]
      refine HC.out.mono ?_
      rintro e' w3 hw3
      obtain ⟨rfl, hb3⟩ := hw3
      have hrow3 := FRow.row_below hrow2a.out hb3
      have hrg3 := hrg2a.out.kept (bel_grown hb3) (by simp) (by simp)
      have hnx3 := hnx2a.out.trans (hb3.mono hnx2a.out.size)
      clear hrow2a hrg2a hb3 hnx2a HC
      go_wp2_with (first
        | (at_builtin; refine wpList_append_own _ rfl _ _ 34 rfl w.heap.size 9 i0 (.string ⟨#[]⟩) 1 16 Tryz.underlying34 hi hz0 hz1 hz2 rfl (by decide) _ _ _ rfl (hrow3.alloc _) ⟨w3.heap.size, 0, none⟩ 1 1 [encStr x] rfl rfl (cell_one_new _ _ _) (by simp [Value.oneCell', encStr]) (by unfold maxLen at *; omega) (by omega) (by have := hnx3.size; simp; omega) ?_; intro v' w4 hown' hg4 hnil4; go_frame)
        | go_in)
      have hrg4 := (hrg3.alloc _).kept hg4 (row_ne_low hrow3 hbl) (row_ne_iter hrow3 hrg3)
      go_roundw
      case rel => exact ⟨_, cnt2, ss ++ [x], all ++ [x], hrg4, by rw [HSZ.out]; simp; omega, by simpa using hown', HS2, hC.step hlk hat, (hnx3.alloc hnx3.size _).grown hg4 (by have := hnx3.size; simp; omega) (fun j hj => (hrow3.lt j hj).1)⟩
      case measure => rw [hrg4.left_eq, hrg.left_eq]; exact hlt
end Go.Proofs.YtpnigkjmofhmbabGreat.SRise
end
