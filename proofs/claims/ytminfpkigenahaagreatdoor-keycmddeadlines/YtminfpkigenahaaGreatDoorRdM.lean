/- The program's reader: take, number, text, field, scored. The program's reader: lists. The program's reader: lists. The program's reader: lists. -/
import Derived.Test.YtminfpkigenahaaGreatDoorCheckM
import Derived.Test.YtminfpkigenahaaGreatDoorEqualM
section
namespace Go.Proofs.YtminfpkigenahaaGreatDoor.Rdr
open Go.RowKit Go.Maps
open Go.Proofs.YtminfpkigenahaaGreatDoor.SetMath
open Go.Proofs.YtminfpkigenahaaGreatDoor.BytesMath
open Go.Proofs.YtminfpkigenahaaGreatDoor.ValueMath
open Go.Proofs.YtminfpkigenahaaGreatDoor.ReadMath
open Go.Proofs.YtminfpkigenahaaGreatDoor.Base
open Go.Proofs.YtminfpkigenahaaGreatDoor.Vals
set_option linter.unusedVariables false

theorem slice_to (s : ByteArray) (n : Nat) (x : Int) (hx : x = (n : Int)) (h : n ≤ s.size) : ∃ t : ByteArray, bs t = (bs s).take n ∧ t.size = n ∧ ∀ w, (Instr.slice 9 (.string s) none (some (.int .i64 x)) none).run Tryz.prog w = .ok (.string t) w := by
  subst hx
  have e : bs (s.extract 0 n) = (bs s).take n := by unfold bs; simp [List.extract_eq_take_drop]
  refine ⟨s.extract 0 n, e, ?_, fun w => ?_⟩
  · rw [← len_bs, e, List.length_take, len_bs]; omega
  · rw [run_slice_string_to_if (P := Tryz.prog) (w := w) 9 s .i64 (n : Int) Tryz.underlying9, if_pos ⟨by omega, by omega⟩]
    rfl
theorem slice_from (s : ByteArray) (n : Nat) (x : Int) (hx : x = (n : Int)) (h : n ≤ s.size) : ∃ t : ByteArray, bs t = (bs s).drop n ∧ t.size = s.size - n ∧ ∀ w, (Instr.slice 9 (.string s) (some (.int .i64 x)) none none).run Tryz.prog w = .ok (.string t) w := by
  subst hx
  have e : bs (s.extract n s.size) = (bs s).drop n := by
    have h1 : (bs s).length = s.size := len_bs s
    have h2 : bs (s.extract n s.size) = ((bs s).drop n).take (s.size - n) := by unfold bs; simp [List.extract_eq_take_drop]
    rw [h2, List.take_of_length_le (by rw [List.length_drop, h1]; omega)]
  refine ⟨s.extract n s.size, e, ?_, fun w => ?_⟩
  · rw [← len_bs, e, List.length_drop, len_bs]
  · rw [run_slice_string_from_if (P := Tryz.prog) (w := w) 9 s .i64 (n : Int) Tryz.underlying9, if_pos ⟨by omega, by omega⟩]
    rfl
theorem cut_to (l : Bs) (n : Nat) (x : Int) (hx : x = (n : Int)) (h : n ≤ l.length) (w : World) : (Instr.slice 9 (.string (mk l)) none (some (.int .i64 x)) none).run Tryz.prog w = .ok (.string (mk (l.take n))) w := by
  obtain ⟨t, h1, _, h2⟩ := slice_to (mk l) n x hx (by rw [mk_size]; exact h)
  rw [h2 w, ← mk_bs t, h1, bs_mk]
theorem cut_from (l : Bs) (n : Nat) (x : Int) (hx : x = (n : Int)) (h : n ≤ l.length) (w : World) : (Instr.slice 9 (.string (mk l)) (some (.int .i64 x)) none none).run Tryz.prog w = .ok (.string (mk (l.drop n))) w := by
  obtain ⟨t, h1, _, h2⟩ := slice_from (mk l) n x hx (by rw [mk_size]; exact h)
  rw [h2 w, ← mk_bs t, h1, bs_mk]
abbrev ptr (b : Nat) : Value := .pointer (some ⟨b, 0, none⟩)
def RD (b : Nat) (s : RS) (w : World) : Prop := w.heap[b]? = some (.cells #[.string (mk s.1), .bool s.2] 176 (0, 0))
abbrev At (b : Nat) : Nat → Prop := fun k => k = b
theorem RD.fr {b : Nat} {s : RS} {w w' : World} (h : RD b s w) (hb : Below w.heap.size w w') : RD b s w' := (hb.block b (lt_of h)).trans h
theorem fr_go {b : Nat} {a c d : World} (h : Fr (At b) a c) (k : Fr (At b) c d) : Fr (At b) a d := h.trans (k.mono fun i _ e => Or.inl e)
theorem fr_b {b : Nat} {a c d : World} (h : Fr (At b) a c) (k : Below c.heap.size c d) : Fr (At b) a d := fr_go h (Fr.of_below k)
set_option maxHeartbeats 1000000 in
set_option maxRecDepth 100000 in
theorem take_call (b n : Nat) (s : RS) (w : World) (h : RD b s w) (hl : s.1.length ≤ 140737488355328) :
    Calls Tryz.prog 153 #[ptr b, .int .i64 n] w fun e w' => e = .returned (.string (mk (tkS n s).1)) ∧ RD b (tkS n s).2 w' ∧ Fr (At b) w w' := by
  obtain ⟨⟨c0, c1⟩, z⟩ := box2 h
  have z0 := z 0
  have z1 := z 1
  obtain ⟨r, f⟩ := s
  have HD := hid_of h
  have hm := mk_size r
  simp only at c0 c1 hl
  clear h z
  cases f
  · by_cases hn : r.length < n
    · rw [tk_no false hn]
      have hn' : ((mk r).size : Int) < (n : Int) := by rw [hm]; omega
      have HF : Hid (RD b (r, true) (w.setCell ⟨b, 1, none⟩ (.bool true))) := hid_of (set_at (i := 1) HD.out (.bool true))
      clear hm hn
      generalize mk r = X at *
      go_enter Tryz.func153, Tryz.ntmps153
      go_wp2
      go_ret
      exact ⟨rfl, HF.out, Fr.set (F := At b) rfl _⟩
    · rw [tk_ok (by omega)]
      have hn' : ¬ ((mk r).size : Int) < (n : Int) := by rw [hm]; omega
      have s1 := cut_to r n (n : Int) rfl (by omega)
      have s2 := cut_from r n (n : Int) rfl (by omega)
      have HF : Hid (RD b (r.drop n, false) (w.setCell ⟨b, 0, none⟩ (.string (mk (r.drop n))))) := hid_of (set_at (i := 0) HD.out (.string (mk (r.drop n))))
      simp only
      clear hm hn
      generalize mk (r.take n) = T at *
      generalize mk (r.drop n) = U at *
      generalize mk r = X at *
      go_enter Tryz.func153, Tryz.ntmps153
      go_wp2
      go_ret
      exact ⟨rfl, HF.out, Fr.set (F := At b) rfl _⟩
  · rw [tk_bad]
    have HF : Hid (RD b (r, true) (w.setCell ⟨b, 1, none⟩ (.bool true))) := hid_of (set_at (i := 1) HD.out (.bool true))
    simp only
    clear hm
    generalize mk r = X at *
    go_enter Tryz.func153, Tryz.ntmps153
    go_wp2
    go_ret
    exact ⟨rfl, HF.out, Fr.set (F := At b) rfl _⟩
theorem unN_V (t : Bs) : unfV (mk t) = (unN t : Int) := by
  unfold unfV unfB unN
  rw [mk_size]
  by_cases h : 1 ≤ t.length ∧ t.length ≤ 8
  · rw [if_pos h, if_pos (decide_eq_true h)]; rfl
  · rw [if_neg h, if_neg (by simpa using h)]; rfl
set_option maxHeartbeats 1000000 in
set_option maxRecDepth 100000 in
theorem number_call (b n : Nat) (s : RS) (w : World) (h : RD b s w) (hl : s.1.length ≤ 140737488355328) :
    Calls Tryz.prog 131 #[ptr b, .int .i64 n] w fun e w' => e = .returned (.int .u64 (nbS n s).1) ∧ RD b (nbS n s).2 w' ∧ Fr (At b) w w' := by
  have HT := hid_of (take_call b n s w h hl)
  have HU := hid_of fun W => Unfix.unfix_any (mk (tkS n s).1) W
  rw [unN_V] at HU
  unfold nbS
  simp only
  generalize (tkS n s).2 = s2 at *
  generalize unN (tkS n s).1 = N at *
  generalize mk (tkS n s).1 = T at *
  generalize unfE T = E at *
  clear h
  go_enter Tryz.func131, Tryz.ntmps131
  go_wp2_with fail
  refine HT.out.mono ?_
  rintro e w1 ⟨rfl, d1, f1⟩
  have H1 := hid_of (And.intro d1 f1)
  clear d1 f1
  go_wp2_with fail
  refine (HU.out w1).mono ?_
  rintro e w2 ⟨rfl, hw2⟩
  rw [hw2]
  clear hw2
  go_wp2_with fail
  go_ret
  exact ⟨rfl, H1.out⟩
set_option maxRecDepth 100000 in
theorem sclone_call (X : ByteArray) (w : World) (h : X.size ≤ 281474976710656) : Calls Tryz.prog 154 #[.string X] w fun e w' => e = .returned (.string X) ∧ Below w.heap.size w w' := by
  have HC := hid_of (Tryz.stringslite_Clone X w h)
  go_enter Tryz.func154, Tryz.ntmps154
  go_wp2_with fail
  refine HC.out.mono ?_
  rintro e w1 ⟨rfl, b1⟩
  have B1 := hid_of b1
  clear b1
  go_wp2_with fail
  go_ret
  exact ⟨rfl, B1.out⟩
set_option maxHeartbeats 1000000 in
set_option maxRecDepth 100000 in
theorem text_call (b : Nat) (s : RS) (w : World) (h : RD b s w) (hl : s.1.length ≤ 140737488355328) :
    Calls Tryz.prog 132 #[ptr b] w fun e w' => e = .returned (.string (mk (txS s).1)) ∧ RD b (txS s).2 w' ∧ Fr (At b) w w' := by
  have HN := hid_of (number_call b 4 s w h hl)
  have HT := hid_of fun (W : World) (hW : RD b (nbS 4 s).2 W) => take_call b (nbS 4 s).1 (nbS 4 s).2 W hW (Nat.le_trans (nb_le 4 s) hl)
  have hlt := nb_lt 4 s (by decide)
  have HC := hid_of fun W => sclone_call (mk (txS s).1) W (by rw [mk_size]; have := (tx_le s).2; omega)
  rw [show tkS (nbS 4 s).1 (nbS 4 s).2 = txS s from rfl] at HT
  have hb : IntKind.i64.wrap ((nbS 4 s).1 : Int) = ((nbS 4 s).1 : Int) := IntWalk.i64_in _ (by omega)
  generalize (nbS 4 s).1 = N at *
  generalize (nbS 4 s).2 = s1 at *
  generalize (txS s).2 = s2 at *
  generalize mk (txS s).1 = T at *
  clear h
  go_enter Tryz.func132, Tryz.ntmps132
  go_wp2_with fail
  refine HN.out.mono ?_
  rintro e w1 ⟨rfl, d1, f1⟩
  have HT1 := hid_of (HT.out w1 d1)
  have F1 := hid_of f1
  clear d1 f1 HT HN
  go_wp2_with fail
  refine HT1.out.mono ?_
  rintro e w2 ⟨rfl, d2, f2⟩
  have F2 := hid_of (And.intro d2 (fr_go F1.out f2))
  clear d2 f2 HT1
  go_wp2_with fail
  refine (HC.out w2).mono ?_
  rintro e w3 ⟨rfl, b3⟩
  have F3 := hid_of (And.intro (F2.out.1.fr b3) (fr_b F2.out.2 b3))
  clear b3 HC
  go_wp2_with fail
  go_ret
  exact ⟨rfl, F3.out⟩
theorem rdr_low {b : Nat} {s : RS} {w : World} (h : RD b s w) : b < w.heap.size := lt_of h
/- a box behind the reader's, through a call that turns the reader alone -/
theorem fr_box {b g : Nat} {w w' : World} {o : Obj} (h : w.heap[g]? = some o) (f : Fr (At b) w w') (hg : g ≠ b) : w'.heap[g]? = some o := (f.block g (lt_of h) hg).trans h
theorem fr_new {b : Nat} {w w' : World} {o : Obj} (f : Fr (At b) (w.alloc o) w') : Fr (At b) w w' := fr_go (Fr.of_below (FRow.bnew w o)) f
theorem fr_set {b g i : Nat} {w w' : World} {v : Value} (f : Fr (At b) w w') (hg : w.heap.size ≤ g) : Fr (At b) w (w'.setCell ⟨g, i, none⟩ v) := f.trans ((Fr.set (F := At g) rfl v).mono fun k _ e => Or.inr (by rw [e]; exact hg))
set_option maxHeartbeats 1000000 in
set_option maxRecDepth 100000 in
theorem field_call (b : Nat) (s : RS) (w : World) (h : RD b s w) (hl : s.1.length ≤ 140737488355328) :
    Calls Tryz.prog 135 #[ptr b] w fun e w' => e = .returned (.agg #[.string (mk (fdS s).1.1), .string (mk (fdS s).1.2)]) ∧ RD b (fdS s).2 w' ∧ Fr (At b) w w' := by
  have hbw := rdr_low h
  obtain ⟨V, hV⟩ : ∃ V, V = w.alloc (.cells #[.string ⟨#[]⟩, .string ⟨#[]⟩] 66) := ⟨_, rfl⟩
  have bV : Below w.heap.size w V := by rw [hV]; exact FRow.bnew w _
  have v0 : V.heap[w.heap.size]? = some (.cells #[.string ⟨#[]⟩, .string ⟨#[]⟩] 66 (0, 0)) := by rw [hV]; exact heap_alloc_new w _
  have H1 := hid_of (text_call b s V (h.fr bV) hl)
  have H2 := hid_of fun (W : World) (hW : RD b (txS s).2 W) => text_call b (txS s).2 W hW (Nat.le_trans (tx_le s).1 hl)
  unfold fdS
  simp only
  generalize (txS (txS s).2).2 = s2 at *
  generalize mk (txS (txS s).2).1 = T2 at *
  generalize (txS s).2 = s1 at *
  generalize mk (txS s).1 = T1 at *
  have HV := hid_of hV
  have HX := hid_of fun (W : World) (hW : Fr (At b) V W) => fr_box v0 hW (by omega)
  have HB := hid_of (fun W (hW : Fr (At b) V W) => fr_go (Fr.of_below bV) hW)
  clear h v0 bV hV
  go_enter Tryz.func135, Tryz.ntmps135
  go_wp2_with fail
  rw [← HV.out]
  refine H1.out.mono ?_
  rintro e w1 ⟨rfl, d1, f1⟩
  have H21 := hid_of (H2.out w1 d1)
  have F1 := hid_of f1
  clear d1 f1 H2 H1
  go_wp2_with fail
  refine H21.out.mono ?_
  rintro e w2 ⟨rfl, d2, f2⟩
  have x2 := HX.out w2 (fr_go F1.out f2)
  obtain ⟨⟨c0, c1⟩, z⟩ := box2 x2
  have z0 := z 0
  have z1 := z 1
  have D2 := hid_of (And.intro d2 (And.intro (HB.out _ (fr_go F1.out f2)) x2))
  clear d2 f2 H21 z x2 F1
  go_wp2_with fail
  obtain ⟨d2, f2, x2⟩ := D2.out
  obtain ⟨⟨g0, g1⟩, _⟩ := box2 (set_at (i := 1) (set_at (i := 0) x2 (.string T1)) (.string T2))
  refine ⟨rfl, .agg #[.string T1, .string T2], ?_, rfl, ?_, fr_set (fr_set f2 (Nat.le_refl _)) (Nat.le_refl _)⟩
  · simp [results, Tryz.results135, go_sem, g0, g1]
  · exact (set_ne (by omega) _).trans ((set_ne (by omega) _).trans d2)
theorem conv_any (n : Nat) : IntKind.i64.wrap (n : Int) = IntKind.i64.wrap n := rfl
set_option maxHeartbeats 1000000 in
set_option maxRecDepth 100000 in
theorem scored_call (b : Nat) (s : RS) (w : World) (h : RD b s w) (hl : s.1.length ≤ 140737488355328) :
    Calls Tryz.prog 137 #[ptr b] w fun e w' => e = .returned (.agg #[.string (mk (scS s).1.1), .int .i64 (scS s).1.2]) ∧ RD b (scS s).2 w' ∧ Fr (At b) w w' := by
  have hbw := rdr_low h
  obtain ⟨V, hV⟩ : ∃ V, V = w.alloc (.cells #[.string ⟨#[]⟩, .int .i64 0] 69) := ⟨_, rfl⟩
  have bV : Below w.heap.size w V := by rw [hV]; exact FRow.bnew w _
  have v0 : V.heap[w.heap.size]? = some (.cells #[.string ⟨#[]⟩, .int .i64 0] 69 (0, 0)) := by rw [hV]; exact heap_alloc_new w _
  have H1 := hid_of (number_call b 8 s V (h.fr bV) hl)
  have H2 := hid_of fun (W : World) (hW : RD b (nbS 8 s).2 W) => text_call b (nbS 8 s).2 W hW (Nat.le_trans (nb_le 8 s) hl)
  unfold scS
  simp only
  generalize (txS (nbS 8 s).2).2 = s2 at *
  generalize mk (txS (nbS 8 s).2).1 = T2 at *
  generalize (nbS 8 s).2 = s1 at *
  generalize ((nbS 8 s).1 : Int) = N at *
  have HV := hid_of hV
  have HX := hid_of fun (W : World) (hW : Fr (At b) V W) => fr_box v0 hW (by omega)
  have HB := hid_of (fun W (hW : Fr (At b) V W) => fr_go (Fr.of_below bV) hW)
  clear h v0 bV hV
  go_enter Tryz.func137, Tryz.ntmps137
  go_wp2_with fail
  rw [← HV.out]
  refine H1.out.mono ?_
  rintro e w1 ⟨rfl, d1, f1⟩
  have H21 := hid_of (H2.out w1 d1)
  have F1 := hid_of f1
  clear d1 f1 H2 H1
  go_wp2_with fail
  refine H21.out.mono ?_
  rintro e w2 ⟨rfl, d2, f2⟩
  have x2 := HX.out w2 (fr_go F1.out f2)
  obtain ⟨⟨c0, c1⟩, z⟩ := box2 x2
  have z0 := z 0
  have z1 := z 1
  have D2 := hid_of (And.intro d2 (And.intro (HB.out _ (fr_go F1.out f2)) x2))
  clear d2 f2 H21 z x2 F1
  go_wp2_with fail
  obtain ⟨d2, f2, x2⟩ := D2.out
  obtain ⟨⟨g0, g1⟩, _⟩ := box2 (set_at (i := 1) (set_at (i := 0) x2 (.string T2)) (.int .i64 (wrap64 N)))
  refine ⟨rfl, .agg #[.string T2, .int .i64 (wrap64 N)], ?_, by rw [IntWalk.i64_left], ?_, fr_set (fr_set f2 (Nat.le_refl _)) (Nat.le_refl _)⟩
  · simp [results, Tryz.results137, go_sem, g0, g1]
  · exact (set_ne (by omega) _).trans ((set_ne (by omega) _).trans d2)
end Go.Proofs.YtminfpkigenahaaGreatDoor.Rdr
end
section
namespace Go.Proofs.YtminfpkigenahaaGreatDoor.Elem
open Go.RowKit Go.Maps
open Go.Proofs.YtminfpkigenahaaGreatDoor.SetMath
open Go.Proofs.YtminfpkigenahaaGreatDoor.BytesMath
open Go.Proofs.YtminfpkigenahaaGreatDoor.ValueMath
open Go.Proofs.YtminfpkigenahaaGreatDoor.ReadMath
open Go.Proofs.YtminfpkigenahaaGreatDoor.Base
open Go.Proofs.YtminfpkigenahaaGreatDoor.Vals
open Go.Proofs.YtminfpkigenahaaGreatDoor.Rdr
set_option linter.unusedVariables false

theorem many_len {α : Type} {p : Bs → Option (α × Bs)} {k : Nat} (hp : ∀ s x r, p s = some (x, r) → r.length + k ≤ s.length) : ∀ (n : Nat) (s : Bs) (l : List α) (r : Bs), many p n s = some (l, r) → r.length + n * k ≤ s.length
  | 0, s, l, r, h => by
    injection h with h
    injection h with h1 h2
    subst h2
    omega
  | n + 1, s, l, r, h => by
    obtain ⟨⟨x, r1⟩, h1, h2⟩ := Option.bind_eq_some_iff.1 h
    obtain ⟨⟨t, r2⟩, h3, h4⟩ := Option.bind_eq_some_iff.1 h2
    injection h4 with h4
    injection h4 with h5 h6
    simp only at h3 h6
    subst h6
    have e1 := hp _ _ _ h1
    have e2 := many_len hp n _ _ _ h3
    have e3 : (n + 1) * k = n * k + k := Nat.succ_mul n k
    omega
theorem len_T {s x r : Bs} (h : rdT s = some (x, r)) : r.length + 4 ≤ s.length := by
  rw [(rdT_some h).1]; unfold encT; rw [List.length_append, List.length_append, len_le4]; omega
theorem len_F {s r : Bs} {x : Bs × Bs} (h : rdF s = some (x, r)) : r.length + 8 ≤ s.length := by
  rw [(rdF_some h).1]; unfold encF encT; simp only [List.length_append, len_le4]; omega
theorem len_E {s r : Bs} {x : Bs × Int} (h : rdE s = some (x, r)) : r.length + 12 ≤ s.length := by
  rw [(rdE_some h).1]; unfold encE encT; simp only [List.length_append, len_le4, len_le8]; omega
/- many, one behind the other -/
theorem many_step {α : Type} {p : Bs → Option (α × Bs)} {n m : Nat} {r1 r r' : Bs} {xs : List α} {x : α} (h : many p n r1 = (many p (m + 1) r).bind fun t => some (xs ++ t.1, t.2)) (hp : p r = some (x, r')) : many p n r1 = (many p m r').bind fun t => some ((xs ++ [x]) ++ t.1, t.2) := by
  rw [h]
  show (((p r).bind fun q => (many p m q.2).bind fun t => some (q.1 :: t.1, t.2)).bind _) = _
  rw [hp]
  show (((many p m r').bind fun t => some (x :: t.1, t.2)).bind _) = _
  cases many p m r' with
  | none => rfl
  | some q => simp
theorem many_stop {α : Type} {p : Bs → Option (α × Bs)} {n m : Nat} {r1 r : Bs} {xs : List α} (h : many p n r1 = (many p (m + 1) r).bind fun t => some (xs ++ t.1, t.2)) (hp : p r = none) : many p n r1 = none := by
  rw [h]
  show (((p r).bind fun q => (many p m q.2).bind fun t => some (q.1 :: t.1, t.2)).bind _) = _
  rw [hp]
  rfl
theorem many_done {α : Type} {p : Bs → Option (α × Bs)} {n : Nat} {r1 r : Bs} {xs : List α} (h : many p n r1 = (many p 0 r).bind fun t => some (xs ++ t.1, t.2)) : many p n r1 = some (xs, r) := by
  rw [h]
  show some (xs ++ [], r) = _
  rw [List.append_nil]
theorem fr_low {F : Nat → Prop} {a c d : World} (h : Fr F a c) (k : Below a.heap.size c d) : Fr F a d :=
  ⟨k.os.trans h.os, k.tape.trans h.tape, k.output.trans h.output, Nat.le_trans h.size k.size, fun i hi hn => (k.block i hi).trans (h.block i hi hn)⟩
theorem nr_fr {B b : Nat} {w w' : World} {v : Value} {l : List El} (h : NR B w v l) (f : Fr (At b) w w') (hb : b < B) : NR B w' v l := h.keep fun k hk hB => f.block k hk (by intro e; have : k = b := e; omega)
theorem row_fr {B b e sz n : Nat} {w w' : World} {v : Value} {xs : List Value} (h : w.ownsRow B e sz v n xs) (f : Fr (At b) w w') (hb : b < B) : w'.ownsRow B e sz v n xs := by
  refine ⟨h.1, h.2.imp id ?_⟩
  rintro ⟨g, cap, cur, rfl, hbg, hg, rest⟩
  exact ⟨g, cap, cur, rfl, hbg, (f.block g (lt_of hg) (by intro e; have : g = b := e; omega)).trans hg, rest⟩

theorem appFRow {B : Nat} {w : World} {v : Value} {l : FRow.LL} (x : FRow.EN) (h : FRow.OR B w v l) (hb : l.length + 1 ≤ FRow.big) (hB : B ≤ w.heap.size) :
    ∃ v' w', (Builtin.append_ #[27, 27] 27 #[v, .slice (some ⟨w.heap.size, 0, none⟩) 1 1]).run Tryz.prog (w.alloc (.cells #[.string (mk x.1), .string (mk x.2)] 66)) = .ok v' w' ∧ FRow.OR B w' v' (l ++ [x]) ∧ Below B w w' := by
  have b1 := FRow.bnew w (.cells #[.string (mk x.1), .string (mk x.2)] 66)
  obtain ⟨v', w', h1, h2, h3⟩ := FRow.append_fs B _ v _ l [x] (FRow.row_below h b1) (FRow.fs_one w x) (Nat.le_trans hB b1.size) (by simpa using hb)
  exact ⟨v', w', h1, h2, (b1.mono hB).trans ((Below.refl B _).grown h3 (Nat.le_trans hB b1.size) (fun k hk => ((FRow.row_below h b1).lt k hk).1))⟩

theorem appERow {B : Nat} {w : World} {v : Value} {l : ERow.LL} (x : ERow.EN) (h : ERow.OR B w v l) (hb : l.length + 1 ≤ ERow.big) (hB : B ≤ w.heap.size) :
    ∃ v' w', (Builtin.append_ #[28, 28] 28 #[v, .slice (some ⟨w.heap.size, 0, none⟩) 1 1]).run Tryz.prog (w.alloc (.cells #[.string (mk x.1), .int .i64 x.2] 69)) = .ok v' w' ∧ ERow.OR B w' v' (l ++ [x]) ∧ Below B w w' := by
  have b1 := ERow.bnew w (.cells #[.string (mk x.1), .int .i64 x.2] 69)
  obtain ⟨v', w', h1, h2, h3⟩ := ERow.append_fs B _ v _ l [x] (ERow.row_below h b1) (ERow.fs_one w x) (Nat.le_trans hB b1.size) (by simpa using hb)
  exact ⟨v', w', h1, h2, (b1.mono hB).trans ((Below.refl B _).grown h3 (Nat.le_trans hB b1.size) (fun k hk => ((ERow.row_below h b1).lt k hk).1))⟩
end Go.Proofs.YtminfpkigenahaaGreatDoor.Elem
end
section
namespace Go.Proofs.YtminfpkigenahaaGreatDoor.ElemS
open Go.RowKit Go.Maps
open Go.Proofs.YtminfpkigenahaaGreatDoor.SetMath
open Go.Proofs.YtminfpkigenahaaGreatDoor.BytesMath
open Go.Proofs.YtminfpkigenahaaGreatDoor.ValueMath
open Go.Proofs.YtminfpkigenahaaGreatDoor.ReadMath
open Go.Proofs.YtminfpkigenahaaGreatDoor.Base
open Go.Proofs.YtminfpkigenahaaGreatDoor.Vals
open Go.Proofs.YtminfpkigenahaaGreatDoor.Rdr
open Go.Proofs.YtminfpkigenahaaGreatDoor.Elem
set_option linter.unusedVariables false


def ResS (b : Nat) (r : Bs) (w w' : World) (v : Value) : Prop := match rdC rdT r with
  | some (l, r') => RD b (r', false) w' ∧ NR (w.heap.size) w' v l
  | none => (∃ r', RD b (r', true) w') ∧ ∃ a n c, v = .slice a n c
theorem infoS : (Tryz.prog.info? 9).map (fun i => (i.zero, i.size, i.bytes)) = some (some (.string ⟨#[]⟩), 1, 16) := by kernel_rfl
set_option maxHeartbeats 4000000 in
set_option maxRecDepth 100000 in
theorem elemS (b : Nat) (r : Bs) (w : World) (h : RD b (r, false) w) (hl : r.length ≤ 140737488355328) :
    Calls Tryz.prog 133 #[ptr b, .int .i64 4, .func (.func 132) #[ptr b] #[]] w fun e w' => ∃ v, e = .returned v ∧ ResS b r w w' v ∧ Fr (At b) w w' := by
  obtain ⟨i0, hi, hz0, hz1, hz2⟩ := info_parts infoS
  have hbw := rdr_low h
  have HN := hid_of (number_call b 4 (r, false) w h hl)
  have HR : Hid (∀ v w', (∃ r' a n c, rdC rdT r = none ∧ RD b (r', true) w' ∧ v = .slice a n c) → ResS b r w w' v) := hid_of fun v w' => by
    rintro ⟨r', a, n, c, h1, h2, h3⟩
    unfold ResS
    rw [h1]
    exact ⟨⟨r', h2⟩, a, n, c, h3⟩
  have HS : Hid (∀ v w' l r', rdC rdT r = some (l, r') → RD b (r', false) w' → NR (w.heap.size) w' v l → ResS b r w w' v) := hid_of fun v w' l r' h1 h2 h3 => by
    unfold ResS
    rw [h1]
    exact ⟨h2, h3⟩
  cases hr : rdN 4 r with
  | none =>
    rw [nb_none false hr] at HN
    have HZ : Hid (rdC rdT r = none) := hid_of (by unfold rdC; rw [hr]; rfl)
    clear h hr
    go_enter Tryz.func133, Tryz.ntmps133
    go_wp2_with fail
    refine HN.out.mono ?_
    rintro e w1 ⟨rfl, d1, f1⟩
    obtain ⟨⟨c0, c1⟩, z⟩ := box2 d1
    have hm := mk_size r
    have q0 : IntKind.i64.wrap (((mk r).size : Int) / 4) = (((mk r).size / 4 : Nat) : Int) := by rw [show ((((mk r).size / 4 : Nat) : Int)) = ((mk r).size : Int) / 4 by omega]; exact IntWalk.i64_in _ (by omega)
    have q1 : IntKind.u64.wrap ((((mk r).size / 4 : Nat) : Int)) = (((mk r).size / 4 : Nat) : Int) := by rw [IntKind.wrap_u64]; omega
    have D1 := hid_of (And.intro d1 f1)
    have hsz := f1.size
    simp only at c0 c1
    clear d1 f1 z HN hm
    have Q0 := hid_of q0
    clear q0
    obtain ⟨q, hq⟩ : ∃ q, q = (mk r).size / 4 := ⟨_, rfl⟩
    rw [← hq] at q1 Q0
    have q0 := Q0.out
    clear Q0 hq
    generalize mk r = X at *
    go_wp2_with (at_make; refine wpList_make_own _ rfl _ _ 26 rfl w1.heap.size 9 i0 (.string ⟨#[]⟩) 1 Tryz.underlying26 hi hz0 hz1 _ _ _ 0 rfl rfl rfl ?b2 ?b3 (Nat.le_refl _) ?_)
    case b2 => simp
    case b3 => simp
    intro w2 hown hgrow
    have B2 := hid_of ((Below.refl w1.heap.size w1).grown hgrow (Nat.le_refl _) (fun k h => by cases h))
    clear hown hgrow
    go_wp2_with fail
    go_loopg [8, 27] 0 (fun g s8 s27 wx => s8 = .slice (some ⟨w1.heap.size, 0, none⟩) 0 0 ∧ s27 = .int .u64 0 ∧ wx = w2)
    case atStart => exact ⟨rfl, rfl, rfl⟩
    case round =>
      obtain ⟨rfl, rfl, hwx⟩ := hrel
      rw [hwx]
      clear hwx
      go_wp2_with fail
      go_ret
      exact ⟨_, rfl, HR.out _ _ ⟨r, _, _, _, HZ.out, D1.out.1.fr B2.out, rfl⟩, fr_b D1.out.2 B2.out⟩
  | some qq =>
    obtain ⟨n, r1⟩ := qq
    rw [nb_some (by decide) (by decide) hr] at HN
    obtain ⟨hrr, hn⟩ := rdN_some hr
    have hn' : n < 4294967296 := by simpa using hn
    have hl1 : r1.length ≤ 140737488355328 := by rw [hrr] at hl; simp at hl; omega
    have HM : Hid (rdC rdT r = many rdT n r1) := hid_of (by unfold rdC; rw [hr]; rfl)
    clear h hr hrr hn
    go_enter Tryz.func133, Tryz.ntmps133
    go_wp2_with fail
    refine HN.out.mono ?_
    rintro e w1 ⟨rfl, d1, f1⟩
    obtain ⟨⟨c0, c1⟩, z⟩ := box2 d1
    have z1 := z 1
    have hm := mk_size r1
    have q0 : IntKind.i64.wrap (((mk r1).size : Int) / 4) = (((mk r1).size / 4 : Nat) : Int) := by rw [show ((((mk r1).size / 4 : Nat) : Int)) = ((mk r1).size : Int) / 4 by omega]; exact IntWalk.i64_in _ (by omega)
    have q1 : IntKind.u64.wrap ((((mk r1).size / 4 : Nat) : Int)) = (((mk r1).size / 4 : Nat) : Int) := by rw [IntKind.wrap_u64]; omega
    have D1 := hid_of (And.intro d1 f1)
    have hsz := f1.size
    have HT : Hid (RD b (r1, true) (w1.setCell ⟨b, 1, none⟩ (.bool true))) := hid_of (set_at (i := 1) d1 (.bool true))
    simp only at c0 c1
    have HQ : Hid ((mk r1).size / 4 < n → many rdT n r1 = none) := hid_of fun hlt => by
      cases e : many rdT n r1 with
      | none => rfl
      | some t =>
        have := many_len (k := 4) (fun s x r h => len_T h) n r1 t.1 t.2 e
        rw [hm] at hlt
        omega
    clear d1 f1 z HN hm
    have Q0 := hid_of q0
    clear q0
    obtain ⟨q, hq⟩ : ∃ q, q = (mk r1).size / 4 := ⟨_, rfl⟩
    rw [← hq] at q1 Q0 HQ
    have q0 := Q0.out
    clear Q0 hq
    generalize mk r1 = X at *
    by_cases hlt : q < n
    · have hlt2 : (q : Int) < (n : Int) := by omega
      have HZ := hid_of (HM.out.trans (HQ.out hlt))
      clear HQ
      go_wp2_with fail
      go_ret
      exact ⟨_, rfl, HR.out _ _ ⟨r1, _, _, _, HZ.out, HT.out, rfl⟩, fr_go D1.out.2 (Fr.set (F := At b) rfl _)⟩
    · have hlt2 : ¬ (q : Int) < (n : Int) := by omega
      clear HQ HT
      go_wp2_with (at_make; refine wpList_make_own _ rfl _ _ 26 rfl w1.heap.size 9 i0 (.string ⟨#[]⟩) 1 Tryz.underlying26 hi hz0 hz1 _ _ _ n rfl rfl rfl ?b2 ?b3 (Nat.le_refl _) ?_)
      case b2 => rw [hz2]; omega
      case b3 => unfold maxLen; omega
      intro w2 hown hgrow
      have b2 := (Below.refl w1.heap.size w1).grown hgrow (Nat.le_refl _) (fun k h => by cases h)
      have R0 : Hid (NR (w.heap.size) w2 (.slice (some ⟨w1.heap.size, 0, none⟩) 0 n) ([] : List (Bs)) ∧ RD b (r1, false) w2 ∧ Fr (At b) w w2) := hid_of ⟨NR.of_owns (FRow.row_mono hown (by omega)), D1.out.1.fr b2, fr_b D1.out.2 b2⟩
      clear hown hgrow b2 c0 c1 z1 q0 q1 hlt hlt2
      go_wp2_with fail
      go_loopg [8, 27] n (fun g s8 s27 wx => ∃ (k : Nat) (xs : List (Bs)) (ra : Option Addr) (rc : Nat) (rk : Bs), k ≤ n ∧ n ≤ k + g ∧ s8 = .slice ra k rc ∧ s27 = .int .u64 (k : Int) ∧ Hid (xs.length = k ∧ rk.length ≤ 140737488355328) ∧ Hid (many rdT n r1 = (many rdT (n - k) rk).bind fun t => some (xs ++ t.1, t.2)) ∧ Hid (NR (w.heap.size) wx (.slice ra k rc) xs ∧ RD b (rk, false) wx ∧ Fr (At b) w wx))
      case atStart => exact ⟨0, [], _, n, r1, by omega, by omega, rfl, rfl, ⟨rfl, hl1⟩, hid_of (by rw [Nat.sub_zero]; cases many rdT n r1 with | none => rfl | some t => rfl), R0⟩
      case round =>
        obtain ⟨k, xs, ra, rc, rk, hk, hg, rfl, rfl, HX, HY, R⟩ := hrel
        by_cases hkn : k < n
        · obtain ⟨g', rfl⟩ : ∃ g', gk = g' + 1 := ⟨gk - 1, by omega⟩
          have d1 : (k : Int) < (n : Int) := by omega
          have w1' : IntKind.u64.wrap ((k : Int) + 1) = (k : Int) + 1 := by rw [IntKind.wrap_u64]; omega
          have HC := hid_of (text_call b (rk, false) wr R.out.2.1 HX.out.2)
          rw [show n - k = (n - (k + 1)) + 1 by omega] at HY
          go_wp2_with fail
          refine HC.out.mono ?_
          rintro e w3 ⟨rfl, d3, f3⟩
          have row3 : NR (w.heap.size) w3 (.slice ra k rc) xs := nr_fr R.out.1 f3 hbw
          have hle := Nat.le_trans R.out.2.2.size f3.size
          obtain ⟨v4, w4, hr4, row4, b4⟩ := app_one (txS (rk, false)).1 row3 (by rw [HX.out.1]; omega) hle 26
          have d4 : RD b (txS (rk, false)).2 w4 := (b4.block b hbw).trans d3
          have f4 := fr_low (fr_go R.out.2.2 f3) b4
          obtain ⟨⟨c0, c1⟩, _⟩ := box2 d4
          obtain ⟨ra4, rc4, rfl, _⟩ := row4.shape
          rw [List.length_append, HX.out.1] at hr4 row4
          change _ = Result.ok (Value.slice ra4 (k + 1) rc4) w4 at hr4
          change NR w.heap.size w4 (Value.slice ra4 (k + 1) rc4) _ at row4
          have R4 := hid_of (And.intro row4 (And.intro d4 f4))
          clear row3 row4 d3 f3 d4 f4 b4 HC hle
          cases hp : rdT rk with
          | none =>
            have HZ := hid_of (HM.out.trans (many_stop HY.out hp))
            obtain ⟨r', hgg⟩ := tx_none hp
            rw [hgg] at c0 c1 R4 hr4 ⊢
            simp only at c0 c1
            clear hp HY hgg
            skip
            go_wp2_with (at_builtin; refine wpl_eq rfl _ _ 26 26 rfl (.slice ra k rc) (.slice (some ⟨w3.heap.size, 0, none⟩) 1 1) (.slice ra4 (k + 1) rc4) _ w4 rfl rfl hr4 ?_)
            go_ret
            exact ⟨_, rfl, HR.out _ _ ⟨r', _, _, _, HZ.out, R4.out.2.1, rfl⟩, R4.out.2.2⟩
          | some t =>
            obtain ⟨x, r'⟩ := t
            have HY2 := hid_of (many_step HY.out hp)
            have hgg := tx_some hp
            rw [hgg] at c0 c1 R4 hr4 ⊢
            simp only at c0 c1
            have HL : Hid ((xs ++ [x]).length = k + 1 ∧ r'.length ≤ 140737488355328) := hid_of ⟨by rw [List.length_append, HX.out.1]; rfl, by have := len_T hp; have := HX.out.2; omega⟩
            clear hp HY hgg
            skip
            go_wp2_with (at_builtin; refine wpl_eq rfl _ _ 26 26 rfl (.slice ra k rc) (.slice (some ⟨w3.heap.size, 0, none⟩) 1 1) (.slice ra4 (k + 1) rc4) _ w4 rfl rfl hr4 ?_)
            go_roundg g'
            case measure => omega
            case rel => exact ⟨k + 1, xs ++ [x], ra4, rc4, r', by omega, by omega, rfl, by simp, HL, HY2, R4⟩
        · obtain rfl : k = n := by omega
          have d1 : ¬ (k : Int) < (k : Int) := by omega
          rw [Nat.sub_self] at HY
          have HZ := hid_of (HM.out.trans (many_done HY.out))
          clear HY
          go_wp2_with fail
          go_ret
          exact ⟨_, rfl, HS.out _ _ xs rk HZ.out R.out.2.1 R.out.1, R.out.2.2⟩
end Go.Proofs.YtminfpkigenahaaGreatDoor.ElemS
end
section
namespace Go.Proofs.YtminfpkigenahaaGreatDoor.ElemF
open Go.RowKit Go.Maps
open Go.Proofs.YtminfpkigenahaaGreatDoor.SetMath
open Go.Proofs.YtminfpkigenahaaGreatDoor.BytesMath
open Go.Proofs.YtminfpkigenahaaGreatDoor.ValueMath
open Go.Proofs.YtminfpkigenahaaGreatDoor.ReadMath
open Go.Proofs.YtminfpkigenahaaGreatDoor.Base
open Go.Proofs.YtminfpkigenahaaGreatDoor.Vals
open Go.Proofs.YtminfpkigenahaaGreatDoor.Rdr
open Go.Proofs.YtminfpkigenahaaGreatDoor.Elem
set_option linter.unusedVariables false


def ResF (b : Nat) (r : Bs) (w w' : World) (v : Value) : Prop := match rdC rdF r with
  | some (l, r') => RD b (r', false) w' ∧ FRow.OR (w.heap.size) w' v l
  | none => (∃ r', RD b (r', true) w') ∧ ∃ a n c, v = .slice a n c
theorem infoF : (Tryz.prog.info? 66).map (fun i => (i.zero, i.size, i.bytes)) = some (some (.agg #[.string ⟨#[]⟩, .string ⟨#[]⟩]), 2, 32) := by kernel_rfl
set_option maxHeartbeats 4000000 in
set_option maxRecDepth 100000 in
theorem elemF (b : Nat) (r : Bs) (w : World) (h : RD b (r, false) w) (hl : r.length ≤ 140737488355328) :
    Calls Tryz.prog 134 #[ptr b, .int .i64 8, .func (.func 135) #[ptr b] #[]] w fun e w' => ∃ v, e = .returned v ∧ ResF b r w w' v ∧ Fr (At b) w w' := by
  obtain ⟨i0, hi, hz0, hz1, hz2⟩ := info_parts infoF
  have hbw := rdr_low h
  have HN := hid_of (number_call b 4 (r, false) w h hl)
  have HR : Hid (∀ v w', (∃ r' a n c, rdC rdF r = none ∧ RD b (r', true) w' ∧ v = .slice a n c) → ResF b r w w' v) := hid_of fun v w' => by
    rintro ⟨r', a, n, c, h1, h2, h3⟩
    unfold ResF
    rw [h1]
    exact ⟨⟨r', h2⟩, a, n, c, h3⟩
  have HS : Hid (∀ v w' l r', rdC rdF r = some (l, r') → RD b (r', false) w' → FRow.OR (w.heap.size) w' v l → ResF b r w w' v) := hid_of fun v w' l r' h1 h2 h3 => by
    unfold ResF
    rw [h1]
    exact ⟨h2, h3⟩
  cases hr : rdN 4 r with
  | none =>
    rw [nb_none false hr] at HN
    have HZ : Hid (rdC rdF r = none) := hid_of (by unfold rdC; rw [hr]; rfl)
    clear h hr
    go_enter Tryz.func134, Tryz.ntmps134
    go_wp2_with fail
    refine HN.out.mono ?_
    rintro e w1 ⟨rfl, d1, f1⟩
    obtain ⟨⟨c0, c1⟩, z⟩ := box2 d1
    have hm := mk_size r
    have q0 : IntKind.i64.wrap (((mk r).size : Int) / 8) = (((mk r).size / 8 : Nat) : Int) := by rw [show ((((mk r).size / 8 : Nat) : Int)) = ((mk r).size : Int) / 8 by omega]; exact IntWalk.i64_in _ (by omega)
    have q1 : IntKind.u64.wrap ((((mk r).size / 8 : Nat) : Int)) = (((mk r).size / 8 : Nat) : Int) := by rw [IntKind.wrap_u64]; omega
    have D1 := hid_of (And.intro d1 f1)
    have hsz := f1.size
    simp only at c0 c1
    clear d1 f1 z HN hm
    have Q0 := hid_of q0
    clear q0
    obtain ⟨q, hq⟩ : ∃ q, q = (mk r).size / 8 := ⟨_, rfl⟩
    rw [← hq] at q1 Q0
    have q0 := Q0.out
    clear Q0 hq
    generalize mk r = X at *
    go_wp2_with (at_make; refine wpList_make_own _ rfl _ _ 27 rfl w1.heap.size 66 i0 (.agg #[.string ⟨#[]⟩, .string ⟨#[]⟩]) 2 Tryz.underlying27 hi hz0 hz1 _ _ _ 0 rfl rfl rfl ?b2 ?b3 (Nat.le_refl _) ?_)
    case b2 => simp
    case b3 => simp
    intro w2 hown hgrow
    have B2 := hid_of ((Below.refl w1.heap.size w1).grown hgrow (Nat.le_refl _) (fun k h => by cases h))
    clear hown hgrow
    go_wp2_with fail
    go_loopg [8, 27] 0 (fun g s8 s27 wx => s8 = .slice (some ⟨w1.heap.size, 0, none⟩) 0 0 ∧ s27 = .int .u64 0 ∧ wx = w2)
    case atStart => exact ⟨rfl, rfl, rfl⟩
    case round =>
      obtain ⟨rfl, rfl, hwx⟩ := hrel
      rw [hwx]
      clear hwx
      go_wp2_with fail
      go_ret
      exact ⟨_, rfl, HR.out _ _ ⟨r, _, _, _, HZ.out, D1.out.1.fr B2.out, rfl⟩, fr_b D1.out.2 B2.out⟩
  | some qq =>
    obtain ⟨n, r1⟩ := qq
    rw [nb_some (by decide) (by decide) hr] at HN
    obtain ⟨hrr, hn⟩ := rdN_some hr
    have hn' : n < 4294967296 := by simpa using hn
    have hl1 : r1.length ≤ 140737488355328 := by rw [hrr] at hl; simp at hl; omega
    have HM : Hid (rdC rdF r = many rdF n r1) := hid_of (by unfold rdC; rw [hr]; rfl)
    clear h hr hrr hn
    go_enter Tryz.func134, Tryz.ntmps134
    go_wp2_with fail
    refine HN.out.mono ?_
    rintro e w1 ⟨rfl, d1, f1⟩
    obtain ⟨⟨c0, c1⟩, z⟩ := box2 d1
    have z1 := z 1
    have hm := mk_size r1
    have q0 : IntKind.i64.wrap (((mk r1).size : Int) / 8) = (((mk r1).size / 8 : Nat) : Int) := by rw [show ((((mk r1).size / 8 : Nat) : Int)) = ((mk r1).size : Int) / 8 by omega]; exact IntWalk.i64_in _ (by omega)
    have q1 : IntKind.u64.wrap ((((mk r1).size / 8 : Nat) : Int)) = (((mk r1).size / 8 : Nat) : Int) := by rw [IntKind.wrap_u64]; omega
    have D1 := hid_of (And.intro d1 f1)
    have hsz := f1.size
    have HT : Hid (RD b (r1, true) (w1.setCell ⟨b, 1, none⟩ (.bool true))) := hid_of (set_at (i := 1) d1 (.bool true))
    simp only at c0 c1
    have HQ : Hid ((mk r1).size / 8 < n → many rdF n r1 = none) := hid_of fun hlt => by
      cases e : many rdF n r1 with
      | none => rfl
      | some t =>
        have := many_len (k := 8) (fun s x r h => len_F h) n r1 t.1 t.2 e
        rw [hm] at hlt
        omega
    clear d1 f1 z HN hm
    have Q0 := hid_of q0
    clear q0
    obtain ⟨q, hq⟩ : ∃ q, q = (mk r1).size / 8 := ⟨_, rfl⟩
    rw [← hq] at q1 Q0 HQ
    have q0 := Q0.out
    clear Q0 hq
    generalize mk r1 = X at *
    by_cases hlt : q < n
    · have hlt2 : (q : Int) < (n : Int) := by omega
      have HZ := hid_of (HM.out.trans (HQ.out hlt))
      clear HQ
      go_wp2_with fail
      go_ret
      exact ⟨_, rfl, HR.out _ _ ⟨r1, _, _, _, HZ.out, HT.out, rfl⟩, fr_go D1.out.2 (Fr.set (F := At b) rfl _)⟩
    · have hlt2 : ¬ (q : Int) < (n : Int) := by omega
      clear HQ HT
      go_wp2_with (at_make; refine wpList_make_own _ rfl _ _ 27 rfl w1.heap.size 66 i0 (.agg #[.string ⟨#[]⟩, .string ⟨#[]⟩]) 2 Tryz.underlying27 hi hz0 hz1 _ _ _ n rfl rfl rfl ?b2 ?b3 (Nat.le_refl _) ?_)
      case b2 => rw [hz2]; omega
      case b3 => unfold maxLen; omega
      intro w2 hown hgrow
      have b2 := (Below.refl w1.heap.size w1).grown hgrow (Nat.le_refl _) (fun k h => by cases h)
      have R0 : Hid (FRow.OR (w.heap.size) w2 (.slice (some ⟨w1.heap.size, 0, none⟩) 0 n) ([] : List (Bs × Bs)) ∧ RD b (r1, false) w2 ∧ Fr (At b) w w2) := hid_of ⟨FRow.row_mono hown (by omega), D1.out.1.fr b2, fr_b D1.out.2 b2⟩
      clear hown hgrow b2 c0 c1 z1 q0 q1 hlt hlt2
      go_wp2_with fail
      go_loopg [8, 27] n (fun g s8 s27 wx => ∃ (k : Nat) (xs : List (Bs × Bs)) (ra : Option Addr) (rc : Nat) (rk : Bs), k ≤ n ∧ n ≤ k + g ∧ s8 = .slice ra k rc ∧ s27 = .int .u64 (k : Int) ∧ Hid (xs.length = k ∧ rk.length ≤ 140737488355328) ∧ Hid (many rdF n r1 = (many rdF (n - k) rk).bind fun t => some (xs ++ t.1, t.2)) ∧ Hid (FRow.OR (w.heap.size) wx (.slice ra k rc) xs ∧ RD b (rk, false) wx ∧ Fr (At b) w wx))
      case atStart => exact ⟨0, [], _, n, r1, by omega, by omega, rfl, rfl, ⟨rfl, hl1⟩, hid_of (by rw [Nat.sub_zero]; cases many rdF n r1 with | none => rfl | some t => rfl), R0⟩
      case round =>
        obtain ⟨k, xs, ra, rc, rk, hk, hg, rfl, rfl, HX, HY, R⟩ := hrel
        by_cases hkn : k < n
        · obtain ⟨g', rfl⟩ : ∃ g', gk = g' + 1 := ⟨gk - 1, by omega⟩
          have d1 : (k : Int) < (n : Int) := by omega
          have w1' : IntKind.u64.wrap ((k : Int) + 1) = (k : Int) + 1 := by rw [IntKind.wrap_u64]; omega
          have HC := hid_of (field_call b (rk, false) wr R.out.2.1 HX.out.2)
          rw [show n - k = (n - (k + 1)) + 1 by omega] at HY
          go_wp2_with fail
          refine HC.out.mono ?_
          rintro e w3 ⟨rfl, d3, f3⟩
          have row3 : FRow.OR (w.heap.size) w3 (.slice ra k rc) xs := row_fr R.out.1 f3 hbw
          have hle := Nat.le_trans R.out.2.2.size f3.size
          obtain ⟨v4, w4, hr4, row4, b4⟩ := appFRow (fdS (rk, false)).1 row3 (by rw [HX.out.1]; unfold FRow.big; omega) hle
          have d4 : RD b (fdS (rk, false)).2 w4 := (b4.block b hbw).trans d3
          have f4 := fr_low (fr_go R.out.2.2 f3) b4
          obtain ⟨⟨c0, c1⟩, _⟩ := box2 d4
          obtain ⟨ra4, rc4, rfl⟩ := shapeFRow row4
          rw [List.length_append, HX.out.1] at hr4 row4
          change _ = Result.ok (Value.slice ra4 (k + 1) rc4) w4 at hr4
          have row5 : FRow.OR w.heap.size w4 (Value.slice ra4 (k + 1) rc4) (xs ++ [(fdS (rk, false)).1]) := row4
          replace row4 := row5
          clear row5
          have R4 := hid_of (And.intro row4 (And.intro d4 f4))
          clear row3 row4 d3 f3 d4 f4 b4 HC hle
          cases hp : rdF rk with
          | none =>
            have HZ := hid_of (HM.out.trans (many_stop HY.out hp))
            obtain ⟨p', r', hgg⟩ := fd_none hp
            rw [hgg] at c0 c1 R4 hr4 ⊢
            simp only at c0 c1
            clear hp HY hgg
            skip
            go_wp2_with (at_builtin; refine wpl_eq rfl _ _ 27 27 rfl (.slice ra k rc) (.slice (some ⟨w3.heap.size, 0, none⟩) 1 1) (.slice ra4 (k + 1) rc4) _ w4 rfl rfl hr4 ?_)
            go_ret
            exact ⟨_, rfl, HR.out _ _ ⟨r', _, _, _, HZ.out, R4.out.2.1, rfl⟩, R4.out.2.2⟩
          | some t =>
            obtain ⟨x, r'⟩ := t
            have HY2 := hid_of (many_step HY.out hp)
            have hgg := fd_some hp
            rw [hgg] at c0 c1 R4 hr4 ⊢
            simp only at c0 c1
            have HL : Hid ((xs ++ [x]).length = k + 1 ∧ r'.length ≤ 140737488355328) := hid_of ⟨by rw [List.length_append, HX.out.1]; rfl, by have := len_F hp; have := HX.out.2; omega⟩
            clear hp HY hgg
            skip
            go_wp2_with (at_builtin; refine wpl_eq rfl _ _ 27 27 rfl (.slice ra k rc) (.slice (some ⟨w3.heap.size, 0, none⟩) 1 1) (.slice ra4 (k + 1) rc4) _ w4 rfl rfl hr4 ?_)
            go_roundg g'
            case measure => omega
            case rel => exact ⟨k + 1, xs ++ [x], ra4, rc4, r', by omega, by omega, rfl, by simp, HL, HY2, R4⟩
        · obtain rfl : k = n := by omega
          have d1 : ¬ (k : Int) < (k : Int) := by omega
          rw [Nat.sub_self] at HY
          have HZ := hid_of (HM.out.trans (many_done HY.out))
          clear HY
          go_wp2_with fail
          go_ret
          exact ⟨_, rfl, HS.out _ _ xs rk HZ.out R.out.2.1 R.out.1, R.out.2.2⟩
end Go.Proofs.YtminfpkigenahaaGreatDoor.ElemF
end
