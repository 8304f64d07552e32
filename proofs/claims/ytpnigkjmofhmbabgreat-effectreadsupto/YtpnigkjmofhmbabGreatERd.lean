/- The reader of effects: take, number, key, value. -/
import Derived.Test.YtpnigkjmofhmbabGreatEWriteM
import Derived.Test.YtpnigkjmofhmbabGreatRdM
namespace Go.Proofs.YtpnigkjmofhmbabGreat.ERd
open Go.RowKit Go.Maps
open Go.Proofs.YtpnigkjmofhmbabGreat.BytesMath
open Go.Proofs.YtpnigkjmofhmbabGreat.ValueMath (Vl chk small sm enc decS)
open Go.Proofs.YtpnigkjmofhmbabGreat.ReadMath
open Go.Proofs.YtpnigkjmofhmbabGreat.Base
open Go.Proofs.YtpnigkjmofhmbabGreat.Vals
open Go.Proofs.YtpnigkjmofhmbabGreat.Dec (zV decV vn_set vn_shape)
open Go.Proofs.YtpnigkjmofhmbabGreat.Rdr (At fr_go fr_b unN_V sclone_call)
open Go.Proofs.YtpnigkjmofhmbabGreat.SBase (Ef vV Bs)
open Go.Proofs.YtpnigkjmofhmbabGreat.SFind (alb)
open Go.Proofs.YtpnigkjmofhmbabGreat.EMay
set_option linter.unusedVariables false
set_option linter.unusedSimpArgs false
abbrev ptr (b : Nat) : Value := .pointer (some ⟨b, 0, none⟩)
theorem ucut_to (l : Bs) (n : Nat) (h : n ≤ l.length) (w : World) : (Instr.slice 9 (.string (mk l)) none (some (.int .u64 (n : Int))) none).run Tryz.prog w = .ok (.string (mk (l.take n))) w := by
  have e : bs ((mk l).extract 0 n) = l.take n := by unfold bs; simp [mk, List.extract_eq_take_drop]
  rw [run_slice_string_to_if (P := Tryz.prog) (w := w) 9 (mk l) .u64 (n : Int) Tryz.underlying9, if_pos ⟨by omega, by rw [mk_size]; omega⟩]
  show Result.ok (Value.string ((mk l).extract 0 n)) w = _
  rw [← mk_bs ((mk l).extract 0 n), e]
theorem ucut_from (l : Bs) (n : Nat) (h : n ≤ l.length) (w : World) : (Instr.slice 9 (.string (mk l)) (some (.int .u64 (n : Int))) none none).run Tryz.prog w = .ok (.string (mk (l.drop n))) w := by
  have e : bs ((mk l).extract n (mk l).size) = l.drop n := by
    have h2 : bs ((mk l).extract n (mk l).size) = (l.drop n).take ((mk l).size - n) := by unfold bs; simp [mk, List.extract_eq_take_drop]
    rw [h2, List.take_of_length_le (by rw [List.length_drop, mk_size]; omega)]
  rw [run_slice_string_from_if (P := Tryz.prog) (w := w) 9 (mk l) .u64 (n : Int) Tryz.underlying9, if_pos ⟨by omega, by rw [mk_size]; omega⟩]
  show Result.ok (Value.string ((mk l).extract n (mk l).size)) w = _
  rw [← mk_bs ((mk l).extract n (mk l).size), e]
def RDe (b : Nat) (s : RS) (w : World) : Prop := w.heap[b]? = some (.cells #[.string (mk s.1), .bool s.2] 58 (0, 0))
theorem RDe.fr {b : Nat} {s : RS} {w w' : World} (h : RDe b s w) (hb : Below w.heap.size w w') : RDe b s w' := (hb.block b (lt_of h)).trans h
set_option maxHeartbeats 1000000 in
set_option maxRecDepth 100000 in
theorem take_call (b n : Nat) (s : RS) (w : World) (h : RDe b s w) (hl : s.1.length ≤ 140737488355328) :
    Calls Tryz.prog 81 #[ptr b, .int .u64 n] w fun e w' => e = .returned (.string (mk (tkS n s).1)) ∧ RDe b (tkS n s).2 w' ∧ Fr (At b) w w' := by
  obtain ⟨⟨c0, c1⟩, z⟩ := box2 h
  have z0 := z 0
  have z1 := z 1
  obtain ⟨r, f⟩ := s
  have HD := hid_of h
  have hm := mk_size r
  simp only at c0 c1 hl
  have hwr : IntKind.u64.wrap ((mk r).size : Int) = ((mk r).size : Int) := IntWalk.u64_in _ (by rw [hm]; omega)
  clear h z
  cases f
  · by_cases hn : r.length < n
    · rw [tk_no false hn]
      have hn' : ((mk r).size : Int) < (n : Int) := by rw [hm]; omega
      have HF : Hid (RDe b (r, true) (w.setCell ⟨b, 1, none⟩ (.bool true))) := hid_of (set_at (i := 1) HD.out (.bool true))
      clear hm hn
      generalize mk r = X at *
      go_enter Tryz.func81, Tryz.ntmps81
      go_wp2
      go_ret
      exact ⟨rfl, HF.out, Fr.set (F := At b) rfl _⟩
    · rw [tk_ok (by omega)]
      have hn' : ¬ ((mk r).size : Int) < (n : Int) := by rw [hm]; omega
      have s1 := ucut_to r n (by omega)
      have s2 := ucut_from r n (by omega)
      have HF : Hid (RDe b (r.drop n, false) (w.setCell ⟨b, 0, none⟩ (.string (mk (r.drop n))))) := hid_of (set_at (i := 0) HD.out (.string (mk (r.drop n))))
      simp only
      clear hm hn
      generalize mk (r.take n) = T at *
      generalize mk (r.drop n) = U at *
      generalize mk r = X at *
      go_enter Tryz.func81, Tryz.ntmps81
      go_wp2
      go_ret
      exact ⟨rfl, HF.out, Fr.set (F := At b) rfl _⟩
  · rw [tk_bad]
    have HF : Hid (RDe b (r, true) (w.setCell ⟨b, 1, none⟩ (.bool true))) := hid_of (set_at (i := 1) HD.out (.bool true))
    simp only
    clear hm
    generalize mk r = X at *
    go_enter Tryz.func81, Tryz.ntmps81
    go_wp2
    go_ret
    exact ⟨rfl, HF.out, Fr.set (F := At b) rfl _⟩
set_option maxHeartbeats 1000000 in
set_option maxRecDepth 100000 in
theorem number_call (b n : Nat) (s : RS) (w : World) (h : RDe b s w) (hl : s.1.length ≤ 140737488355328) :
    Calls Tryz.prog 48 #[ptr b, .int .u64 n] w fun e w' => e = .returned (.int .u64 (nbS n s).1) ∧ RDe b (nbS n s).2 w' ∧ Fr (At b) w w' := by
  have HT := hid_of (take_call b n s w h hl)
  have HU := hid_of fun W => Unfix.unfix_any (mk (tkS n s).1) W
  rw [unN_V] at HU
  unfold nbS
  simp only
  generalize (tkS n s).2 = s2 at *
  generalize unN (tkS n s).1 = N at *
  generalize mk (tkS n s).1 = T at *
  generalize unfE T = E at *
  clear h
  go_enter Tryz.func48, Tryz.ntmps48
  go_wp2_with fail
  refine HT.out.mono ?_
  rintro e w1 ⟨rfl, d1, f1⟩
  have H1 := hid_of (And.intro d1 f1)
  clear d1 f1
  go_wp2_with fail
  refine (HU.out w1).mono ?_
  rintro e w2 ⟨rfl, hw2⟩
  rw [hw2]
  clear hw2
  go_wp2_with fail
  go_ret
  exact ⟨rfl, H1.out⟩
def kyS (s : RS) : Bs × RS := tkS (nbS 8 s).1 (nbS 8 s).2
theorem ky_le (s : RS) : (kyS s).2.1.length ≤ s.1.length ∧ (kyS s).1.length ≤ s.1.length := by
  have h1 := tk_le (nbS 8 s).1 (nbS 8 s).2
  have h2 := nb_le 8 s
  unfold kyS
  omega
set_option maxHeartbeats 1000000 in
set_option maxRecDepth 100000 in
theorem key_call (b : Nat) (s : RS) (w : World) (h : RDe b s w) (hl : s.1.length ≤ 140737488355328) :
    Calls Tryz.prog 50 #[ptr b] w fun e w' => e = .returned (.string (mk (kyS s).1)) ∧ RDe b (kyS s).2 w' ∧ Fr (At b) w w' := by
  have HN := hid_of (number_call b 8 s w h hl)
  have HT := hid_of fun (W : World) (hW : RDe b (nbS 8 s).2 W) => take_call b (nbS 8 s).1 (nbS 8 s).2 W hW (Nat.le_trans (nb_le 8 s) hl)
  have HC := hid_of fun W => sclone_call (mk (kyS s).1) W (by rw [mk_size]; have := (ky_le s).2; omega)
  rw [show tkS (nbS 8 s).1 (nbS 8 s).2 = kyS s from rfl] at HT
  generalize (nbS 8 s).1 = N at *
  generalize (nbS 8 s).2 = s1 at *
  generalize (kyS s).2 = s2 at *
  generalize mk (kyS s).1 = T at *
  clear h
  go_enter Tryz.func50, Tryz.ntmps50
  go_wp2_with fail
  refine HN.out.mono ?_
  rintro e w1 ⟨rfl, d1, f1⟩
  have H1 := hid_of (HT.out w1 d1)
  have F1 := hid_of f1
  clear d1 f1 HT HN
  go_wp2_with fail
  refine H1.out.mono ?_
  rintro e w2 ⟨rfl, d2, f2⟩
  have D2 := hid_of (And.intro d2 (fr_go F1.out f2))
  clear d2 f2 F1 H1
  go_wp2_with fail
  refine (HC.out w2).mono ?_
  rintro e w3 ⟨rfl, b3⟩
  have B3 := hid_of b3
  clear b3
  go_wp2_with fail
  go_ret
  exact ⟨rfl, D2.out.1.fr B3.out, fr_b D2.out.2 B3.out⟩
def vlS (s : RS) : Vl × RS := ((decV s.1).1, (tkS (decV s.1).2.1 (s.1, s.2 || decide ((decV s.1).2.2 ≠ 0))).2)
theorem vl_le (s : RS) : (vlS s).2.1.length ≤ s.1.length := (tk_le _ (s.1, s.2 || decide ((decV s.1).2.2 ≠ 0))).1
theorem vn_fr {B b : Nat} {w w' : World} {v : Value} {x : Vl} (h : VN B w v x) (hf : Fr (At b) w w') (hb : b < B) : VN B w' v x := by
  obtain ⟨a, b', c, rfl, h1, h2, h3⟩ := h
  have st : ∀ k, k < w.heap.size → B ≤ k → w'.heap[k]? = w.heap[k]? := fun k hk hB => hf.block k hk (fun e => by have e : k = b := e; omega)
  refine ⟨a, b', c, rfl, h1.keep st, FRow.row_later h2 fun g cs t fz hg hh _ => st g (lt_of hh) ?_, FRow.row_later h3 fun g cs t fz hg hh _ => st g (lt_of hh) ?_⟩
  · exact (Push.row_kd h2 hg).2.2
  · exact (Push.row_kd h3 hg).2.2
theorem dec_le (s : Bs) : (decV s).2.1 ≤ s.length := by
  unfold decV
  cases h : decS s with
  | none => simp
  | some q =>
    obtain ⟨x, m⟩ := q
    show m ≤ s.length
    unfold decS at h
    cases h2 : ValueMath.valS s with
    | none => rw [h2] at h; cases h
    | some p =>
      rw [h2] at h
      simp only [Option.bind_some] at h
      split at h
      · cases h; omega
      · cases h
theorem frs {b : Nat} {w w' : World} (h : Fr (At b) w w') {q i : Nat} (hq : w.heap.size ≤ q) (y : Value) : Fr (At b) w (w'.setCell ⟨q, i, none⟩ y) :=
  ⟨h.os, h.tape, h.output, by rw [size_set]; exact h.size, fun k hk hn => (set_ne (by omega) _).trans (h.block k hk hn)⟩
theorem fr5 {b : Nat} {w w' : World} (h : Fr (At b) w w') {q : Nat} (hq : w.heap.size ≤ q) {y0 y1 y2 y3 y4 : Value} : Fr (At b) w (((((w'.setCell ⟨q, 0, none⟩ y0).setCell ⟨q, 1, none⟩ y1).setCell ⟨q, 2, none⟩ y2).setCell ⟨q, 3, none⟩ y3).setCell ⟨q, 4, none⟩ y4) := frs (frs (frs (frs (frs h hq _) hq _) hq _) hq _) hq _
theorem alloc_set (w : World) (o : Obj) (b i : Nat) (hb : b < w.heap.size) (v : Value) : (w.alloc o).setCell ⟨b, i, none⟩ v = (w.setCell ⟨b, i, none⟩ v).alloc o := by
  unfold World.setCell World.alloc
  simp only [World.mk.injEq, true_and, and_true]
  apply Array.ext
  · simp
  · intro k h1 h2
    simp only [Array.getElem_modify, Array.getElem_push]
    simp only [Array.size_modify, Array.size_push] at h1
    by_cases hk : k < w.heap.size
    · simp [hk, Array.getElem_modify]
    · have : b ≠ k := by omega
      simp [hk, this]
abbrev zB : Obj := .cells #[.int .i64 0, .string ⟨#[]⟩, .slice none 0 0, .slice none 0 0, .slice none 0 0] 38
set_option maxHeartbeats 2000000 in
set_option maxRecDepth 100000 in
theorem value_call (b : Nat) (s : RS) (w : World) (h : RDe b s w) (hl : s.1.length ≤ 140737488355328) :
    Calls Tryz.prog 51 #[ptr b] w fun e w' => ∃ v, e = .returned v ∧ VN w.heap.size w' v (vlS s).1 ∧ RDe b (vlS s).2 w' ∧ Fr (At b) w w' := by
  obtain ⟨r, f⟩ := s
  have hbl := lt_of h
  have hl' : r.length ≤ 140737488355328 := hl
  obtain ⟨W0, hW0⟩ : ∃ W0, W0 = w.alloc zB := ⟨_, rfl⟩
  have b0 : Below w.heap.size w W0 := by rw [hW0]; exact alb _ _
  have HD := hid_of (Dec.decode_call r W0 hl')
  have HR0 := hid_of (h.fr b0)
  have HB0 := hid_of b0
  have hc0 : w.cell? ⟨b, 0, none⟩ = some (.string (mk r)) := Lib.cell_of_heap h 0
  have HW := hid_of hW0
  have z0 : W0.heap.size = w.heap.size + 1 := by rw [hW0]; simp
  have HZ := hid_of z0
  have HZO := hid_of (show W0.heap[w.heap.size]? = some zB by rw [hW0]; exact heap_alloc_new w _)
  have HV : Hid ((vlS (r, f)).1 = (decV r).1 ∧ (vlS (r, f)).2 = (tkS (decV r).2.1 (r, f || decide ((decV r).2.2 ≠ 0))).2) := hid_of ⟨rfl, rfl⟩
  have hm : (decV r).2.1 ≤ r.length := dec_le r
  clear h hW0 b0 z0
  unfold Dec.RT at HD
  generalize (vlS (r, f)).1 = X at *
  generalize (vlS (r, f)).2 = S2 at *
  obtain ⟨x, m, E, hdv⟩ : ∃ x m E, decV r = (x, m, E) := ⟨_, _, _, rfl⟩
  rw [hdv] at HD HV hm
  simp only at HD HV hm
  have hwm : IntKind.u64.wrap (m : Int) = (m : Int) := IntWalk.u64_in _ (by omega)
  clear hdv
  go_enter Tryz.func51, Tryz.ntmps51
  go_wp2_with fail
  rw [← HW.out]
  refine HD.out.mono ?_
  rintro e w1 ⟨v, rfl, hv, hb1⟩
  obtain ⟨kd, T, a1, n1, c1, a2, n2, c2, a3, n3, c3, rfl⟩ := vn_shape hv
  obtain ⟨W2, hW2⟩ : ∃ W2, W2 = w1.alloc (.cells #[.int .i64 kd, .string T, .slice a1 n1 c1, .slice a2 n2 c2, .slice a3 n3 c3] 38) := ⟨_, rfl⟩
  have bW2 : Below w1.heap.size w1 W2 := by rw [hW2]; exact alb _ _
  have HB2 := hid_of (show Below W0.heap.size W0 W2 from hb1.trans (bW2.mono hb1.size))
  have HVN := hid_of (hv.below bW2)
  have HR2 := hid_of (HR0.out.fr HB2.out)
  have HX2 := hid_of (show W2.heap[w1.heap.size]? = some (.cells #[.int .i64 kd, .string T, .slice a1 n1 c1, .slice a2 n2 c2, .slice a3 n3 c3] 38 (0, 0)) by rw [hW2]; exact heap_alloc_new w1 _)
  have HZ2 := hid_of ((HB2.out.block _ (lt_of HZO.out)).trans HZO.out)
  have hl1 : w.heap.size < w1.heap.size := by have := hb1.size; have := HZ.out; omega
  have hb1l : b < w1.heap.size := by omega
  have HRF := hid_of (show w1.frozen? ⟨b, 1, none⟩ = false from Lib.frozen_of_heap (HR0.out.fr hb1) 1)
  have HW2 := hid_of hW2
  clear hv hb1 bW2 hW2 HD
  by_cases hE : E = 0
  · have hf : (f || decide (E ≠ 0)) = f := by simp [hE]
    rw [hf] at HV
    have HT := hid_of (take_call b m (r, f) W2 HR2.out hl')
    subst hE
    clear hf
    go_wp2_with fail
    rw [← HW2.out]
    refine HT.out.mono ?_
    rintro e w3 ⟨rfl, d3, f3⟩
    have x3 := (f3.block _ (lt_of HX2.out) (by show ¬ w1.heap.size = b; omega)).trans HX2.out
    have z3 := (f3.block _ (lt_of HZ2.out) (by show ¬ w.heap.size = b; omega)).trans HZ2.out
    have HVF := hid_of (vn_fr HVN.out f3 (by have := HZ.out; omega))
    have HD3 := hid_of d3
    have HF3' := hid_of (show Fr (At b) w w3 from fr_go (Fr.of_below (HB0.out.trans (HB2.out.mono HB0.out.size))) f3)
    obtain ⟨⟨y0, y1, y2, y3, y4⟩, -⟩ := box5 x3
    obtain ⟨⟨u0, u1, u2, u3, u4⟩, fz⟩ := box5 z3
    have t0 := fz 0
    have t1 := fz 1
    have t2 := fz 2
    have t3 := fz 3
    have t4 := fz 4
    have HZ4 := hid_of z3
    clear d3 f3 x3 z3 fz HT
    go_wp2_with fail
    have hz := set_at (i := 4) (set_at (i := 3) (set_at (i := 2) (set_at (i := 1) (set_at (i := 0) HZ4.out (.int .i64 kd)) (.string T)) (.slice a1 n1 c1)) (.slice a2 n2 c2)) (.slice a3 n3 c3)
    have hz' : (Dec.fin5 w3 w.heap.size (.int .i64 kd) (.string T) (.slice a1 n1 c1) (.slice a2 n2 c2) (.slice a3 n3 c3)).heap[w.heap.size]? = some (.cells #[.int .i64 kd, .string T, .slice a1 n1 c1, .slice a2 n2 c2, .slice a3 n3 c3] 38 (0, 0)) := by unfold Dec.fin5; simpa using hz
    have q0 := Lib.cell_of_heap hz' 0
    have q1 := Lib.cell_of_heap hz' 1
    have q2 := Lib.cell_of_heap hz' 2
    have q3 := Lib.cell_of_heap hz' 3
    have q4 := Lib.cell_of_heap hz' 4
    unfold Dec.fin5 at q0 q1 q2 q3 q4
    refine bodyPost_ret (v := .agg #[.int .i64 kd, .string T, .slice a1 n1 c1, .slice a2 n2 c2, .slice a3 n3 c3]) (by simp [results, Tryz.results51, go_sem, q0, q1, q2, q3, q4]) rfl ⟨_, rfl, ?_, ?_, ?_⟩
    · rw [HV.out.1]
      exact (Dec.f5_vn HVF.out (by have := HZ.out; omega)).mono (by have := HZ.out; omega)
    · rw [HV.out.2]
      exact (set_ne (by omega) _).trans ((set_ne (by omega) _).trans ((set_ne (by omega) _).trans ((set_ne (by omega) _).trans ((set_ne (by omega) _).trans HD3.out))))
    · exact fr5 HF3'.out (Nat.le_refl _)
  · have hf : (f || decide (E ≠ 0)) = true := by simp [hE]
    rw [hf] at HV
    have eE : (E == 0) = false := by simp [hE]
    have hz1 := HRF.out
    have c1' : w1.cell? ⟨b, 1, none⟩ = some (.bool f) := by
      have q := Lib.cell_of_heap HR2.out 1
      rw [HW2.out] at q
      have := World.cell?_alloc_lt w1 (.cells #[.int .i64 kd, .string T, .slice a1 n1 c1, .slice a2 n2 c2, .slice a3 n3 c3] 38) ⟨b, 1, none⟩ hb1l
      rw [this] at q
      exact q
    obtain ⟨W3, hW3⟩ : ∃ W3, W3 = W2.setCell ⟨b, 1, none⟩ (.bool true) := ⟨_, rfl⟩
    have hR3 : RDe b (r, true) W3 := by rw [hW3]; exact set_at (i := 1) HR2.out (.bool true)
    have f3 : Fr (At b) W2 W3 := by rw [hW3]; exact Fr.set (F := At b) rfl _
    have HT := hid_of (take_call b m (r, true) W3 hR3 hl')
    have HX3 := hid_of (show W3.heap[w1.heap.size]? = some (.cells #[.int .i64 kd, .string T, .slice a1 n1 c1, .slice a2 n2 c2, .slice a3 n3 c3] 38 (0, 0)) by rw [hW3, set_ne (by omega)]; exact HX2.out)
    have HZ3 := hid_of (show W3.heap[w.heap.size]? = some zB by rw [hW3, set_ne (by omega)]; exact HZ2.out)
    have HV3 := hid_of (vn_fr HVN.out f3 (by have := HZ.out; omega))
    have HF3 := hid_of f3
    have HW3 := hid_of (show W3 = (w1.setCell ⟨b, 1, none⟩ (.bool true)).alloc (.cells #[.int .i64 kd, .string T, .slice a1 n1 c1, .slice a2 n2 c2, .slice a3 n3 c3] 38) by
      rw [hW3, HW2.out]
      exact alloc_set _ _ _ _ hb1l _)
    clear f3 hR3 hW3 hf
    go_wp2_with fail
    rw [← HW3.out]
    refine HT.out.mono ?_
    rintro e w3 ⟨rfl, d3, f3⟩
    have x3 := (f3.block _ (lt_of HX3.out) (by show ¬ w1.heap.size = b; omega)).trans HX3.out
    have z3 := (f3.block _ (lt_of HZ3.out) (by show ¬ w.heap.size = b; omega)).trans HZ3.out
    have HVF := hid_of (vn_fr HV3.out f3 (by have := HZ.out; omega))
    have HD3 := hid_of d3
    have HF3' := hid_of (show Fr (At b) w w3 from fr_go (fr_go (Fr.of_below (HB0.out.trans (HB2.out.mono HB0.out.size))) HF3.out) f3)
    obtain ⟨⟨y0, y1, y2, y3, y4⟩, -⟩ := box5 x3
    obtain ⟨⟨u0, u1, u2, u3, u4⟩, fz⟩ := box5 z3
    have t0 := fz 0
    have t1 := fz 1
    have t2 := fz 2
    have t3 := fz 3
    have t4 := fz 4
    have HZ4 := hid_of z3
    clear d3 f3 x3 z3 fz HT
    go_wp2_with fail
    have hz := set_at (i := 4) (set_at (i := 3) (set_at (i := 2) (set_at (i := 1) (set_at (i := 0) HZ4.out (.int .i64 kd)) (.string T)) (.slice a1 n1 c1)) (.slice a2 n2 c2)) (.slice a3 n3 c3)
    have hz' : (Dec.fin5 w3 w.heap.size (.int .i64 kd) (.string T) (.slice a1 n1 c1) (.slice a2 n2 c2) (.slice a3 n3 c3)).heap[w.heap.size]? = some (.cells #[.int .i64 kd, .string T, .slice a1 n1 c1, .slice a2 n2 c2, .slice a3 n3 c3] 38 (0, 0)) := by unfold Dec.fin5; simpa using hz
    have q0 := Lib.cell_of_heap hz' 0
    have q1 := Lib.cell_of_heap hz' 1
    have q2 := Lib.cell_of_heap hz' 2
    have q3 := Lib.cell_of_heap hz' 3
    have q4 := Lib.cell_of_heap hz' 4
    unfold Dec.fin5 at q0 q1 q2 q3 q4
    refine bodyPost_ret (v := .agg #[.int .i64 kd, .string T, .slice a1 n1 c1, .slice a2 n2 c2, .slice a3 n3 c3]) (by simp [results, Tryz.results51, go_sem, q0, q1, q2, q3, q4]) rfl ⟨_, rfl, ?_, ?_, ?_⟩
    · rw [HV.out.1]
      exact (Dec.f5_vn HVF.out (by have := HZ.out; omega)).mono (by have := HZ.out; omega)
    · rw [HV.out.2]
      exact (set_ne (by omega) _).trans ((set_ne (by omega) _).trans ((set_ne (by omega) _).trans ((set_ne (by omega) _).trans ((set_ne (by omega) _).trans HD3.out))))
    · exact fr5 HF3'.out (Nat.le_refl _)
end Go.Proofs.YtpnigkjmofhmbabGreat.ERd
