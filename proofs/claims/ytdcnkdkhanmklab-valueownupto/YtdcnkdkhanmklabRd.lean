/- The program's reader: take, number, text, field, scored. -/
import Derived.Test.YtdcnkdkhanmklabReadMath
import Derived.Test.YtdcnkdkhanmklabVals
import Derived.Test.YtdcnkdkhanmklabUnfix
namespace Go.Proofs.Ytdcnkdkhanmklab.Rdr
open Go.RowKit Go.Maps
open Go.Proofs.Ytdcnkdkhanmklab.SetMath
open Go.Proofs.Ytdcnkdkhanmklab.BytesMath
open Go.Proofs.Ytdcnkdkhanmklab.ValueMath
open Go.Proofs.Ytdcnkdkhanmklab.ReadMath
open Go.Proofs.Ytdcnkdkhanmklab.Base
open Go.Proofs.Ytdcnkdkhanmklab.Vals
set_option linter.unusedVariables false

theorem slice_to (s : ByteArray) (n : Nat) (x : Int) (hx : x = (n : Int)) (h : n ≤ s.size) : ∃ t : ByteArray, bs t = (bs s).take n ∧ t.size = n ∧ ∀ w, (Instr.slice 9 (.string s) none (some (.int .i64 x)) none).run Try.prog w = .ok (.string t) w := by
  subst hx
  have e : bs (s.extract 0 n) = (bs s).take n := by unfold bs; simp [List.extract_eq_take_drop]
  refine ⟨s.extract 0 n, e, ?_, fun w => ?_⟩
  · rw [← len_bs, e, List.length_take, len_bs]; omega
  · rw [run_slice_string_to_if (P := Try.prog) (w := w) 9 s .i64 (n : Int) Try.underlying9, if_pos ⟨by omega, by omega⟩]
    rfl
theorem slice_from (s : ByteArray) (n : Nat) (x : Int) (hx : x = (n : Int)) (h : n ≤ s.size) : ∃ t : ByteArray, bs t = (bs s).drop n ∧ t.size = s.size - n ∧ ∀ w, (Instr.slice 9 (.string s) (some (.int .i64 x)) none none).run Try.prog w = .ok (.string t) w := by
  subst hx
  have e : bs (s.extract n s.size) = (bs s).drop n := by
    have h1 : (bs s).length = s.size := len_bs s
    have h2 : bs (s.extract n s.size) = ((bs s).drop n).take (s.size - n) := by unfold bs; simp [List.extract_eq_take_drop]
    rw [h2, List.take_of_length_le (by rw [List.length_drop, h1]; omega)]
  refine ⟨s.extract n s.size, e, ?_, fun w => ?_⟩
  · rw [← len_bs, e, List.length_drop, len_bs]
  · rw [run_slice_string_from_if (P := Try.prog) (w := w) 9 s .i64 (n : Int) Try.underlying9, if_pos ⟨by omega, by omega⟩]
    rfl
theorem cut_to (l : Bs) (n : Nat) (x : Int) (hx : x = (n : Int)) (h : n ≤ l.length) (w : World) : (Instr.slice 9 (.string (mk l)) none (some (.int .i64 x)) none).run Try.prog w = .ok (.string (mk (l.take n))) w := by
  obtain ⟨t, h1, _, h2⟩ := slice_to (mk l) n x hx (by rw [mk_size]; exact h)
  rw [h2 w, ← mk_bs t, h1, bs_mk]
theorem cut_from (l : Bs) (n : Nat) (x : Int) (hx : x = (n : Int)) (h : n ≤ l.length) (w : World) : (Instr.slice 9 (.string (mk l)) (some (.int .i64 x)) none none).run Try.prog w = .ok (.string (mk (l.drop n))) w := by
  obtain ⟨t, h1, _, h2⟩ := slice_from (mk l) n x hx (by rw [mk_size]; exact h)
  rw [h2 w, ← mk_bs t, h1, bs_mk]
abbrev ptr (b : Nat) : Value := .pointer (some ⟨b, 0, none⟩)
def RD (b : Nat) (s : RS) (w : World) : Prop := w.heap[b]? = some (.cells #[.string (mk s.1), .bool s.2] 61 (0, 0))
abbrev At (b : Nat) : Nat → Prop := fun k => k = b
theorem RD.fr {b : Nat} {s : RS} {w w' : World} (h : RD b s w) (hb : Below w.heap.size w w') : RD b s w' := (hb.block b (lt_of h)).trans h
theorem fr_go {b : Nat} {a c d : World} (h : Fr (At b) a c) (k : Fr (At b) c d) : Fr (At b) a d := h.trans (k.mono fun i _ e => Or.inl e)
theorem fr_b {b : Nat} {a c d : World} (h : Fr (At b) a c) (k : Below c.heap.size c d) : Fr (At b) a d := fr_go h (Fr.of_below k)
set_option maxHeartbeats 1000000 in
set_option maxRecDepth 100000 in
theorem take_call (b n : Nat) (s : RS) (w : World) (h : RD b s w) (hl : s.1.length ≤ 140737488355328) :
    Calls Try.prog 37 #[ptr b, .int .i64 n] w fun e w' => e = .returned (.string (mk (tkS n s).1)) ∧ RD b (tkS n s).2 w' ∧ Fr (At b) w w' := by
  obtain ⟨⟨c0, c1⟩, z⟩ := box2 h
  have z0 := z 0
  have z1 := z 1
  obtain ⟨r, f⟩ := s
  have HD := hid_of h
  have hm := mk_size r
  simp only at c0 c1 hl
  clear h z
  cases f
  · by_cases hn : r.length < n
    · rw [tk_no false hn]
      have hn' : ((mk r).size : Int) < (n : Int) := by rw [hm]; omega
      have HF : Hid (RD b (r, true) (w.setCell ⟨b, 1, none⟩ (.bool true))) := hid_of (set_at (i := 1) HD.out (.bool true))
      clear hm hn
      generalize mk r = X at *
      go_enter Try.func37, Try.ntmps37
      go_wp2
      go_ret
      exact ⟨rfl, HF.out, Fr.set (F := At b) rfl _⟩
    · rw [tk_ok (by omega)]
      have hn' : ¬ ((mk r).size : Int) < (n : Int) := by rw [hm]; omega
      have s1 := cut_to r n (n : Int) rfl (by omega)
      have s2 := cut_from r n (n : Int) rfl (by omega)
      have HF : Hid (RD b (r.drop n, false) (w.setCell ⟨b, 0, none⟩ (.string (mk (r.drop n))))) := hid_of (set_at (i := 0) HD.out (.string (mk (r.drop n))))
      simp only
      clear hm hn
      generalize mk (r.take n) = T at *
      generalize mk (r.drop n) = U at *
      generalize mk r = X at *
      go_enter Try.func37, Try.ntmps37
      go_wp2
      go_ret
      exact ⟨rfl, HF.out, Fr.set (F := At b) rfl _⟩
  · rw [tk_bad]
    have HF : Hid (RD b (r, true) (w.setCell ⟨b, 1, none⟩ (.bool true))) := hid_of (set_at (i := 1) HD.out (.bool true))
    simp only
    clear hm
    generalize mk r = X at *
    go_enter Try.func37, Try.ntmps37
    go_wp2
    go_ret
    exact ⟨rfl, HF.out, Fr.set (F := At b) rfl _⟩
theorem unN_V (t : Bs) : unfV (mk t) = (unN t : Int) := by
  unfold unfV unfB unN
  rw [mk_size]
  by_cases h : 1 ≤ t.length ∧ t.length ≤ 8
  · rw [if_pos h, if_pos (decide_eq_true h)]; rfl
  · rw [if_neg h, if_neg (by simpa using h)]; rfl
set_option maxHeartbeats 1000000 in
set_option maxRecDepth 100000 in
theorem number_call (b n : Nat) (s : RS) (w : World) (h : RD b s w) (hl : s.1.length ≤ 140737488355328) :
    Calls Try.prog 27 #[ptr b, .int .i64 n] w fun e w' => e = .returned (.int .u64 (nbS n s).1) ∧ RD b (nbS n s).2 w' ∧ Fr (At b) w w' := by
  have HT := hid_of (take_call b n s w h hl)
  have HU := hid_of fun W => Unfix.unfix_any (mk (tkS n s).1) W
  rw [unN_V] at HU
  unfold nbS
  simp only
  generalize (tkS n s).2 = s2 at *
  generalize unN (tkS n s).1 = N at *
  generalize mk (tkS n s).1 = T at *
  generalize unfE T = E at *
  clear h
  go_enter Try.func27, Try.ntmps27
  go_wp2_with fail
  refine HT.out.mono ?_
  rintro e w1 ⟨rfl, d1, f1⟩
  have H1 := hid_of (And.intro d1 f1)
  clear d1 f1
  go_wp2_with fail
  refine (HU.out w1).mono ?_
  rintro e w2 ⟨rfl, hw2⟩
  rw [hw2]
  clear hw2
  go_wp2_with fail
  go_ret
  exact ⟨rfl, H1.out⟩
set_option maxRecDepth 100000 in
theorem sclone_call (X : ByteArray) (w : World) (h : X.size ≤ 281474976710656) : Calls Try.prog 38 #[.string X] w fun e w' => e = .returned (.string X) ∧ Below w.heap.size w w' := by
  have HC := hid_of (Try.stringslite_Clone X w h)
  go_enter Try.func38, Try.ntmps38
  go_wp2_with fail
  refine HC.out.mono ?_
  rintro e w1 ⟨rfl, b1⟩
  have B1 := hid_of b1
  clear b1
  go_wp2_with fail
  go_ret
  exact ⟨rfl, B1.out⟩
set_option maxHeartbeats 1000000 in
set_option maxRecDepth 100000 in
theorem text_call (b : Nat) (s : RS) (w : World) (h : RD b s w) (hl : s.1.length ≤ 140737488355328) :
    Calls Try.prog 28 #[ptr b] w fun e w' => e = .returned (.string (mk (txS s).1)) ∧ RD b (txS s).2 w' ∧ Fr (At b) w w' := by
  have HN := hid_of (number_call b 4 s w h hl)
  have HT := hid_of fun (W : World) (hW : RD b (nbS 4 s).2 W) => take_call b (nbS 4 s).1 (nbS 4 s).2 W hW (Nat.le_trans (nb_le 4 s) hl)
  have hlt := nb_lt 4 s (by decide)
  have HC := hid_of fun W => sclone_call (mk (txS s).1) W (by rw [mk_size]; have := (tx_le s).2; omega)
  rw [show tkS (nbS 4 s).1 (nbS 4 s).2 = txS s from rfl] at HT
  have hb : IntKind.i64.wrap ((nbS 4 s).1 : Int) = ((nbS 4 s).1 : Int) := IntWalk.i64_in _ (by omega)
  generalize (nbS 4 s).1 = N at *
  generalize (nbS 4 s).2 = s1 at *
  generalize (txS s).2 = s2 at *
  generalize mk (txS s).1 = T at *
  clear h
  go_enter Try.func28, Try.ntmps28
  go_wp2_with fail
  refine HN.out.mono ?_
  rintro e w1 ⟨rfl, d1, f1⟩
  have HT1 := hid_of (HT.out w1 d1)
  have F1 := hid_of f1
  clear d1 f1 HT HN
  go_wp2_with fail
  refine HT1.out.mono ?_
  rintro e w2 ⟨rfl, d2, f2⟩
  have F2 := hid_of (And.intro d2 (fr_go F1.out f2))
  clear d2 f2 HT1
  go_wp2_with fail
  refine (HC.out w2).mono ?_
  rintro e w3 ⟨rfl, b3⟩
  have F3 := hid_of (And.intro (F2.out.1.fr b3) (fr_b F2.out.2 b3))
  clear b3 HC
  go_wp2_with fail
  go_ret
  exact ⟨rfl, F3.out⟩
theorem rdr_low {b : Nat} {s : RS} {w : World} (h : RD b s w) : b < w.heap.size := lt_of h
/- a box behind the reader's, through a call that turns the reader alone -/
theorem fr_box {b g : Nat} {w w' : World} {o : Obj} (h : w.heap[g]? = some o) (f : Fr (At b) w w') (hg : g ≠ b) : w'.heap[g]? = some o := (f.block g (lt_of h) hg).trans h
theorem fr_new {b : Nat} {w w' : World} {o : Obj} (f : Fr (At b) (w.alloc o) w') : Fr (At b) w w' := fr_go (Fr.of_below (FRow.bnew w o)) f
theorem fr_set {b g i : Nat} {w w' : World} {v : Value} (f : Fr (At b) w w') (hg : w.heap.size ≤ g) : Fr (At b) w (w'.setCell ⟨g, i, none⟩ v) := f.trans ((Fr.set (F := At g) rfl v).mono fun k _ e => Or.inr (by rw [e]; exact hg))
set_option maxHeartbeats 1000000 in
set_option maxRecDepth 100000 in
theorem field_call (b : Nat) (s : RS) (w : World) (h : RD b s w) (hl : s.1.length ≤ 140737488355328) :
    Calls Try.prog 31 #[ptr b] w fun e w' => e = .returned (.agg #[.string (mk (fdS s).1.1), .string (mk (fdS s).1.2)]) ∧ RD b (fdS s).2 w' ∧ Fr (At b) w w' := by
  have hbw := rdr_low h
  obtain ⟨V, hV⟩ : ∃ V, V = w.alloc (.cells #[.string ⟨#[]⟩, .string ⟨#[]⟩] 38) := ⟨_, rfl⟩
  have bV : Below w.heap.size w V := by rw [hV]; exact FRow.bnew w _
  have v0 : V.heap[w.heap.size]? = some (.cells #[.string ⟨#[]⟩, .string ⟨#[]⟩] 38 (0, 0)) := by rw [hV]; exact heap_alloc_new w _
  have H1 := hid_of (text_call b s V (h.fr bV) hl)
  have H2 := hid_of fun (W : World) (hW : RD b (txS s).2 W) => text_call b (txS s).2 W hW (Nat.le_trans (tx_le s).1 hl)
  unfold fdS
  simp only
  generalize (txS (txS s).2).2 = s2 at *
  generalize mk (txS (txS s).2).1 = T2 at *
  generalize (txS s).2 = s1 at *
  generalize mk (txS s).1 = T1 at *
  have HV := hid_of hV
  have HX := hid_of fun (W : World) (hW : Fr (At b) V W) => fr_box v0 hW (by omega)
  have HB := hid_of (fun W (hW : Fr (At b) V W) => fr_go (Fr.of_below bV) hW)
  clear h v0 bV hV
  go_enter Try.func31, Try.ntmps31
  go_wp2_with fail
  rw [← HV.out]
  refine H1.out.mono ?_
  rintro e w1 ⟨rfl, d1, f1⟩
  have H21 := hid_of (H2.out w1 d1)
  have F1 := hid_of f1
  clear d1 f1 H2 H1
  go_wp2_with fail
  refine H21.out.mono ?_
  rintro e w2 ⟨rfl, d2, f2⟩
  have x2 := HX.out w2 (fr_go F1.out f2)
  obtain ⟨⟨c0, c1⟩, z⟩ := box2 x2
  have z0 := z 0
  have z1 := z 1
  have D2 := hid_of (And.intro d2 (And.intro (HB.out _ (fr_go F1.out f2)) x2))
  clear d2 f2 H21 z x2 F1
  go_wp2_with fail
  obtain ⟨d2, f2, x2⟩ := D2.out
  obtain ⟨⟨g0, g1⟩, _⟩ := box2 (set_at (i := 1) (set_at (i := 0) x2 (.string T1)) (.string T2))
  refine ⟨rfl, .agg #[.string T1, .string T2], ?_, rfl, ?_, fr_set (fr_set f2 (Nat.le_refl _)) (Nat.le_refl _)⟩
  · simp [results, Try.results31, go_sem, g0, g1]
  · exact (set_ne (by omega) _).trans ((set_ne (by omega) _).trans d2)
theorem conv_any (n : Nat) : IntKind.i64.wrap (n : Int) = IntKind.i64.wrap n := rfl
set_option maxHeartbeats 1000000 in
set_option maxRecDepth 100000 in
theorem scored_call (b : Nat) (s : RS) (w : World) (h : RD b s w) (hl : s.1.length ≤ 140737488355328) :
    Calls Try.prog 33 #[ptr b] w fun e w' => e = .returned (.agg #[.string (mk (scS s).1.1), .int .i64 (scS s).1.2]) ∧ RD b (scS s).2 w' ∧ Fr (At b) w w' := by
  have hbw := rdr_low h
  obtain ⟨V, hV⟩ : ∃ V, V = w.alloc (.cells #[.string ⟨#[]⟩, .int .i64 0] 40) := ⟨_, rfl⟩
  have bV : Below w.heap.size w V := by rw [hV]; exact FRow.bnew w _
  have v0 : V.heap[w.heap.size]? = some (.cells #[.string ⟨#[]⟩, .int .i64 0] 40 (0, 0)) := by rw [hV]; exact heap_alloc_new w _
  have H1 := hid_of (number_call b 8 s V (h.fr bV) hl)
  have H2 := hid_of fun (W : World) (hW : RD b (nbS 8 s).2 W) => text_call b (nbS 8 s).2 W hW (Nat.le_trans (nb_le 8 s) hl)
  unfold scS
  simp only
  generalize (txS (nbS 8 s).2).2 = s2 at *
  generalize mk (txS (nbS 8 s).2).1 = T2 at *
  generalize (nbS 8 s).2 = s1 at *
  generalize ((nbS 8 s).1 : Int) = N at *
  have HV := hid_of hV
  have HX := hid_of fun (W : World) (hW : Fr (At b) V W) => fr_box v0 hW (by omega)
  have HB := hid_of (fun W (hW : Fr (At b) V W) => fr_go (Fr.of_below bV) hW)
  clear h v0 bV hV
  go_enter Try.func33, Try.ntmps33
  go_wp2_with fail
  rw [← HV.out]
  refine H1.out.mono ?_
  rintro e w1 ⟨rfl, d1, f1⟩
  have H21 := hid_of (H2.out w1 d1)
  have F1 := hid_of f1
  clear d1 f1 H2 H1
  go_wp2_with fail
  refine H21.out.mono ?_
  rintro e w2 ⟨rfl, d2, f2⟩
  have x2 := HX.out w2 (fr_go F1.out f2)
  obtain ⟨⟨c0, c1⟩, z⟩ := box2 x2
  have z0 := z 0
  have z1 := z 1
  have D2 := hid_of (And.intro d2 (And.intro (HB.out _ (fr_go F1.out f2)) x2))
  clear d2 f2 H21 z x2 F1
  go_wp2_with fail
  obtain ⟨d2, f2, x2⟩ := D2.out
  obtain ⟨⟨g0, g1⟩, _⟩ := box2 (set_at (i := 1) (set_at (i := 0) x2 (.string T2)) (.int .i64 (wrap64 N)))
  refine ⟨rfl, .agg #[.string T2, .int .i64 (wrap64 N)], ?_, by rw [IntWalk.i64_left], ?_, fr_set (fr_set f2 (Nat.le_refl _)) (Nat.le_refl _)⟩
  · simp [results, Try.results33, go_sem, g0, g1]
  · exact (set_ne (by omega) _).trans ((set_ne (by omega) _).trans d2)
end Go.Proofs.Ytdcnkdkhanmklab.Rdr
