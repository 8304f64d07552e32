/- A reader that goes along bytes, and what it has failed at: against the reading of ValueMath. The contracts of num.Unfix and of the document's own Unfix. The program's reader: take, number, text, field, scored. The program's reader: lists. -/
import Derived.Test.YtpnigkjmofhmbabGreatFixMathM
import Derived.Test.YtpnigkjmofhmbabGreatRows
import Derived.Test.YtpnigkjmofhmbabGreatCallRowSM
import Derived.WalkKit
import Derived.Below
import Derived.Test.YtpnigkjmofhmbabGreatOfM
section
namespace Go.Proofs.YtpnigkjmofhmbabGreat.ReadMath
open Go.Proofs.YtpnigkjmofhmbabGreat.SetMath
open Go.Proofs.YtpnigkjmofhmbabGreat.BytesMath
open Go.Proofs.YtpnigkjmofhmbabGreat.FixMath
open Go.Proofs.YtpnigkjmofhmbabGreat.ValueMath
set_option linter.unusedVariables false
set_option linter.unusedSimpArgs false
abbrev RS := Bs × Bool
def tkS (n : Nat) (s : RS) : Bs × RS := if s.2 = true ∨ s.1.length < n then ([], s.1, true) else (s.1.take n, s.1.drop n, false)
def unN (t : Bs) : Nat := if 1 ≤ t.length ∧ t.length ≤ 8 then leN t else 0
def nbS (w : Nat) (s : RS) : Nat × RS := (unN (tkS w s).1, (tkS w s).2)
def txS (s : RS) : Bs × RS := tkS (nbS 4 s).1 (nbS 4 s).2
def fdS (s : RS) : (Bs × Bs) × RS := (((txS s).1, (txS (txS s).2).1), (txS (txS s).2).2)
def scS (s : RS) : (Bs × Int) × RS := (((txS (nbS 8 s).2).1, IntKind.i64.wrap (nbS 8 s).1), (txS (nbS 8 s).2).2)
theorem tk_bad (n : Nat) (r : Bs) : tkS n (r, true) = ([], r, true) := by unfold tkS; rw [if_pos (Or.inl rfl)]
theorem tk_no {n : Nat} {r : Bs} (f : Bool) (h : r.length < n) : tkS n (r, f) = ([], r, true) := by unfold tkS; rw [if_pos (Or.inr h)]
theorem tk_ok {n : Nat} {r : Bs} (h : n ≤ r.length) : tkS n (r, false) = (r.take n, r.drop n, false) := by
  unfold tkS
  rw [if_neg (by rintro (h1 | h1); cases h1; exact absurd h (by simpa using h1))]
theorem nb_bad (w : Nat) (r : Bs) : nbS w (r, true) = (0, r, true) := by unfold nbS; rw [tk_bad]; rfl
theorem nb_some {w : Nat} {r r' : Bs} {n : Nat} (h1 : 1 ≤ w) (h8 : w ≤ 8) (h : rdN w r = some (n, r')) : nbS w (r, false) = (n, r', false) := by
  unfold rdN at h
  split at h
  · cases h
  · injection h with h
    injection h with e1 e2
    unfold nbS
    rw [tk_ok (by omega)]
    simp only [unN]
    rw [if_pos (by rw [List.length_take]; omega), e1, e2]
theorem nb_none {w : Nat} {r : Bs} (f : Bool) (h : rdN w r = none) : nbS w (r, f) = (0, r, true) := by
  unfold rdN at h
  split at h
  · unfold nbS
    rw [tk_no f (by assumption)]
    rfl
  · cases h
theorem tx_bad (r : Bs) : txS (r, true) = ([], r, true) := by unfold txS; rw [nb_bad]; exact tk_bad 0 r
theorem tx_some {r r' t : Bs} (h : rdT r = some (t, r')) : txS (r, false) = (t, r', false) := by
  unfold rdT at h
  obtain ⟨⟨n, r1⟩, h1, h2⟩ := Option.bind_eq_some_iff.1 h
  unfold txS
  rw [nb_some (by decide) (by decide) h1]
  simp only at h2 ⊢
  unfold rdTk at h2
  split at h2
  · cases h2
  · injection h2 with h2
    injection h2 with e1 e2
    rw [tk_ok (by omega), e1, e2]
theorem tx_none {r : Bs} (h : rdT r = none) : ∃ r', txS (r, false) = ([], r', true) := by
  unfold rdT at h
  unfold txS
  cases e : rdN 4 r with
  | none => rw [nb_none _ e]; exact ⟨r, tk_bad 0 r⟩
  | some q =>
    obtain ⟨n, r1⟩ := q
    rw [e] at h
    rw [nb_some (by decide) (by decide) e]
    change rdTk n r1 = none at h
    unfold rdTk at h
    split at h
    · exact ⟨r1, tk_no false (by assumption)⟩
    · cases h
theorem fd_some {r r' : Bs} {p : Bs × Bs} (h : rdF r = some (p, r')) : fdS (r, false) = (p, r', false) := by
  unfold rdF at h
  obtain ⟨⟨a, r1⟩, h1, h2⟩ := Option.bind_eq_some_iff.1 h
  obtain ⟨⟨b, r2⟩, h3, h4⟩ := Option.bind_eq_some_iff.1 h2
  injection h4 with h4
  injection h4 with h5 h6
  simp only at h3 h5 h6
  unfold fdS
  rw [tx_some h1]
  simp only
  rw [tx_some h3, ← h5, ← h6]
theorem fd_none {r : Bs} (h : rdF r = none) : ∃ p r', fdS (r, false) = (p, r', true) := by
  unfold rdF at h
  unfold fdS
  cases e : rdT r with
  | none =>
    obtain ⟨r1, h1⟩ := tx_none e
    rw [h1]
    simp only
    rw [tx_bad]
    exact ⟨_, _, rfl⟩
  | some q =>
    obtain ⟨a, r1⟩ := q
    rw [e] at h
    rw [tx_some e]
    simp only
    cases e2 : rdT r1 with
    | none =>
      obtain ⟨r2, h2⟩ := tx_none e2
      rw [h2]
      exact ⟨_, _, rfl⟩
    | some q2 =>
      change ((rdT r1).bind _) = none at h
      rw [e2] at h
      cases h
theorem sc_some {r r' : Bs} {p : Bs × Int} (h : rdE r = some (p, r')) : scS (r, false) = (p, r', false) := by
  unfold rdE at h
  obtain ⟨⟨a, r1⟩, h1, h2⟩ := Option.bind_eq_some_iff.1 h
  obtain ⟨⟨b, r2⟩, h3, h4⟩ := Option.bind_eq_some_iff.1 h2
  injection h4 with h4
  injection h4 with h5 h6
  simp only at h3 h5 h6
  unfold scS
  rw [nb_some (by decide) (by decide) h1]
  simp only
  rw [tx_some h3, ← h5, ← h6]
theorem sc_none {r : Bs} (h : rdE r = none) : ∃ p r', scS (r, false) = (p, r', true) := by
  unfold rdE at h
  unfold scS
  cases e : rdN 8 r with
  | none =>
    rw [nb_none _ e]
    simp only
    rw [tx_bad]
    exact ⟨_, _, rfl⟩
  | some q =>
    obtain ⟨a, r1⟩ := q
    rw [e] at h
    rw [nb_some (by decide) (by decide) e]
    simp only
    cases e2 : rdT r1 with
    | none =>
      obtain ⟨r2, h2⟩ := tx_none e2
      rw [h2]
      exact ⟨_, _, rfl⟩
    | some q2 =>
      change ((rdT r1).bind _) = none at h
      rw [e2] at h
      cases h
/- what is left is an end of what there was -/
theorem tk_le (n : Nat) (s : RS) : (tkS n s).2.1.length ≤ s.1.length ∧ (tkS n s).1.length ≤ s.1.length := by
  unfold tkS
  split
  · simp
  · simp; omega
theorem nb_le (w : Nat) (s : RS) : (nbS w s).2.1.length ≤ s.1.length := (tk_le w s).1
theorem tx_le (s : RS) : (txS s).2.1.length ≤ s.1.length ∧ (txS s).1.length ≤ s.1.length := by
  have h1 := tk_le (nbS 4 s).1 (nbS 4 s).2
  have h2 := nb_le 4 s
  unfold txS
  omega
theorem nb_lt (w : Nat) (s : RS) (hw : w ≤ 8) : (nbS w s).1 < 256 ^ w := by
  unfold nbS unN
  have h1 : (tkS w s).1.length ≤ w := by
    unfold tkS
    split
    · simp
    · simp; omega
  have h2 := leN_lt (tkS w s).1
  have h3 : 256 ^ (tkS w s).1.length ≤ 256 ^ w := Nat.pow_le_pow_right (by omega) h1
  have h4 : 0 < 256 ^ w := Nat.pow_pos (by omega)
  simp only
  split
  · omega
  · exact h4
end Go.Proofs.YtpnigkjmofhmbabGreat.ReadMath
end
section
namespace Go.Proofs.YtpnigkjmofhmbabGreat.Unfix
open Go.RowKit
open Go.Proofs.YtpnigkjmofhmbabGreat.BytesMath

theorem ret_ui {a b c d : Int} (h1 : a = b) (h2 : c = d) : Ending.returned (.tuple #[.int .u64 a, .int .i64 c]) = .returned (.tuple #[.int .u64 b, .int .i64 d]) := by rw [h1, h2]
theorem val_u {a b : Int} (h : a = b) : Value.int .u64 a = .int .u64 b := by rw [h]
theorem val_i {a b : Int} (h : a = b) : Value.int .i64 a = .int .i64 b := by rw [h]

set_option maxHeartbeats 400000 in
theorem unfix_ok (s : ByteArray) (w : World) (h1 : 1 ≤ s.size) (h8 : s.size ≤ 8) :
    Calls Tryz.prog 80 #[.string s] w fun e w' => e = .returned (.tuple #[.int .u64 (leN s.data.toList), .int .i64 0]) ∧ w' = w := by
  go_enter Tryz.func80, Tryz.ntmps80
  go_wp2
  go_loop [4, 16] (fun n i => ∃ k : Nat, k ≤ s.size ∧ i = .int .i64 k ∧ n = .int .u64 (leN (s.data.toList.take k))) (fun _ i => s.size - (intOf i).toNat)
  case atStart => exact ⟨0, Nat.zero_le _, rfl, rfl⟩
  case round =>
    obtain ⟨k, hk, rfl, rfl⟩ := hrel
    by_cases hlt : k < s.size
    · go_wp2
      exact ⟨⟨k + 1, hlt, val_i (by omega), val_u (unfix_step s k hlt h8)⟩, by simp [intOf]; omega⟩
    · go_wp2
      go_ret2
      exact ⟨ret_ui (by rw [take_all s k (by omega)]) rfl, rfl⟩
set_option maxHeartbeats 400000 in
theorem runfix_ok (s : ByteArray) (w : World) (h1 : 1 ≤ s.size) (h8 : s.size ≤ 8) :
    Calls Tryz.prog 85 #[.string s] w fun e w' => e = .returned (.tuple #[.int .u64 (leN s.data.toList), .int .i64 0]) ∧ w' = w := by
  go_enter Tryz.func85, Tryz.ntmps85
  go_wp2
  go_loop [4, 5] (fun n i => ∃ k : Nat, k ≤ s.size ∧ i = .int .i64 ((k : Int) - 1) ∧ n = .int .u64 (leN (s.data.toList.drop k))) (fun _ i => (intOf i + 1).toNat)
  case atStart => exact ⟨s.size, Nat.le_refl _, rfl, val_u (by rw [drop_all s]; rfl)⟩
  case round =>
    obtain ⟨k, hk, rfl, rfl⟩ := hrel
    by_cases hlt : 1 ≤ k
    · go_wp2
      exact ⟨⟨k - 1, by omega, val_i (by omega), val_u (runfix_step s k hlt hk h8 (by omega))⟩, by simp [intOf]; omega⟩
    · have hk0 : k = 0 := by omega
      subst hk0
      go_wp2
      go_ret2
      exact ⟨rfl, rfl⟩
set_option maxHeartbeats 400000 in
theorem unfix_no (s : ByteArray) (w : World) (h : s.size < 1 ∨ 8 < s.size) :
    Calls Tryz.prog 80 #[.string s] w fun e w' => e = .returned (.tuple #[.int .u64 0, .int .i64 12]) ∧ w' = w := by
  rcases h with h | h
  all_goals
    go_enter Tryz.func80, Tryz.ntmps80
    go_wp2
    go_ret2
    exact ⟨rfl, rfl⟩
set_option maxHeartbeats 400000 in
theorem runfix_no (s : ByteArray) (w : World) (h : s.size < 1 ∨ 8 < s.size) :
    Calls Tryz.prog 85 #[.string s] w fun e w' => e = .returned (.tuple #[.int .u64 0, .int .i64 12]) ∧ w' = w := by
  rcases h with h | h
  all_goals
    go_enter Tryz.func85, Tryz.ntmps85
    go_wp2
    go_ret2
    exact ⟨rfl, rfl⟩
theorem unfB_no {s : ByteArray} (h : unfB s = false) : s.size < 1 ∨ 8 < s.size := by simp [unfB] at h; omega
theorem unfB_ok {s : ByteArray} (h : unfB s = true) : 1 ≤ s.size ∧ s.size ≤ 8 := by simpa [unfB] using h
theorem unfix_any (s : ByteArray) (w : World) :
    Calls Tryz.prog 80 #[.string s] w fun e w' => e = .returned (.tuple #[.int .u64 (unfV s), .int .i64 (unfE s)]) ∧ w' = w := by
  unfold unfV unfE
  cases h : unfB s
  · exact unfix_no s w (unfB_no h)
  · exact unfix_ok s w (unfB_ok h).1 (unfB_ok h).2
theorem runfix_any (s : ByteArray) (w : World) :
    Calls Tryz.prog 85 #[.string s] w fun e w' => e = .returned (.tuple #[.int .u64 (unfV s), .int .i64 (unfE s)]) ∧ w' = w := by
  unfold unfV unfE
  cases h : unfB s
  · exact runfix_no s w (unfB_no h)
  · exact runfix_ok s w (unfB_ok h).1 (unfB_ok h).2
end Go.Proofs.YtpnigkjmofhmbabGreat.Unfix
end
section
namespace Go.Proofs.YtpnigkjmofhmbabGreat.Rdr
open Go.RowKit Go.Maps
open Go.Proofs.YtpnigkjmofhmbabGreat.SetMath
open Go.Proofs.YtpnigkjmofhmbabGreat.BytesMath
open Go.Proofs.YtpnigkjmofhmbabGreat.ValueMath
open Go.Proofs.YtpnigkjmofhmbabGreat.ReadMath
open Go.Proofs.YtpnigkjmofhmbabGreat.Base
open Go.Proofs.YtpnigkjmofhmbabGreat.Vals
set_option linter.unusedVariables false

theorem slice_to (s : ByteArray) (n : Nat) (x : Int) (hx : x = (n : Int)) (h : n ≤ s.size) : ∃ t : ByteArray, bs t = (bs s).take n ∧ t.size = n ∧ ∀ w, (Instr.slice 9 (.string s) none (some (.int .i64 x)) none).run Tryz.prog w = .ok (.string t) w := by
  subst hx
  have e : bs (s.extract 0 n) = (bs s).take n := by unfold bs; simp [List.extract_eq_take_drop]
  refine ⟨s.extract 0 n, e, ?_, fun w => ?_⟩
  · rw [← len_bs, e, List.length_take, len_bs]; omega
  · rw [run_slice_string_to_if (P := Tryz.prog) (w := w) 9 s .i64 (n : Int) Tryz.underlying9, if_pos ⟨by omega, by omega⟩]
    rfl
theorem slice_from (s : ByteArray) (n : Nat) (x : Int) (hx : x = (n : Int)) (h : n ≤ s.size) : ∃ t : ByteArray, bs t = (bs s).drop n ∧ t.size = s.size - n ∧ ∀ w, (Instr.slice 9 (.string s) (some (.int .i64 x)) none none).run Tryz.prog w = .ok (.string t) w := by
  subst hx
  have e : bs (s.extract n s.size) = (bs s).drop n := by
    have h1 : (bs s).length = s.size := len_bs s
    have h2 : bs (s.extract n s.size) = ((bs s).drop n).take (s.size - n) := by unfold bs; simp [List.extract_eq_take_drop]
    rw [h2, List.take_of_length_le (by rw [List.length_drop, h1]; omega)]
  refine ⟨s.extract n s.size, e, ?_, fun w => ?_⟩
  · rw [← len_bs, e, List.length_drop, len_bs]
  · rw [run_slice_string_from_if (P := Tryz.prog) (w := w) 9 s .i64 (n : Int) Tryz.underlying9, if_pos ⟨by omega, by omega⟩]
    rfl
theorem cut_to (l : Bs) (n : Nat) (x : Int) (hx : x = (n : Int)) (h : n ≤ l.length) (w : World) : (Instr.slice 9 (.string (mk l)) none (some (.int .i64 x)) none).run Tryz.prog w = .ok (.string (mk (l.take n))) w := by
  obtain ⟨t, h1, _, h2⟩ := slice_to (mk l) n x hx (by rw [mk_size]; exact h)
  rw [h2 w, ← mk_bs t, h1, bs_mk]
theorem cut_from (l : Bs) (n : Nat) (x : Int) (hx : x = (n : Int)) (h : n ≤ l.length) (w : World) : (Instr.slice 9 (.string (mk l)) (some (.int .i64 x)) none none).run Tryz.prog w = .ok (.string (mk (l.drop n))) w := by
  obtain ⟨t, h1, _, h2⟩ := slice_from (mk l) n x hx (by rw [mk_size]; exact h)
  rw [h2 w, ← mk_bs t, h1, bs_mk]
abbrev ptr (b : Nat) : Value := .pointer (some ⟨b, 0, none⟩)
def RD (b : Nat) (s : RS) (w : World) : Prop := w.heap[b]? = some (.cells #[.string (mk s.1), .bool s.2] 174 (0, 0))
abbrev At (b : Nat) : Nat → Prop := fun k => k = b
theorem RD.fr {b : Nat} {s : RS} {w w' : World} (h : RD b s w) (hb : Below w.heap.size w w') : RD b s w' := (hb.block b (lt_of h)).trans h
theorem fr_go {b : Nat} {a c d : World} (h : Fr (At b) a c) (k : Fr (At b) c d) : Fr (At b) a d := h.trans (k.mono fun i _ e => Or.inl e)
theorem fr_b {b : Nat} {a c d : World} (h : Fr (At b) a c) (k : Below c.heap.size c d) : Fr (At b) a d := fr_go h (Fr.of_below k)
set_option maxHeartbeats 1000000 in
set_option maxRecDepth 100000 in
theorem take_call (b n : Nat) (s : RS) (w : World) (h : RD b s w) (hl : s.1.length ≤ 140737488355328) :
    Calls Tryz.prog 133 #[ptr b, .int .i64 n] w fun e w' => e = .returned (.string (mk (tkS n s).1)) ∧ RD b (tkS n s).2 w' ∧ Fr (At b) w w' := by
  obtain ⟨⟨c0, c1⟩, z⟩ := box2 h
  have z0 := z 0
  have z1 := z 1
  obtain ⟨r, f⟩ := s
  have HD := hid_of h
  have hm := mk_size r
  simp only at c0 c1 hl
  clear h z
  cases f
  · by_cases hn : r.length < n
    · rw [tk_no false hn]
      have hn' : ((mk r).size : Int) < (n : Int) := by rw [hm]; omega
      have HF : Hid (RD b (r, true) (w.setCell ⟨b, 1, none⟩ (.bool true))) := hid_of (set_at (i := 1) HD.out (.bool true))
      clear hm hn
      generalize mk r = X at *
      go_enter Tryz.func133, Tryz.ntmps133
      go_wp2
      go_ret
      exact ⟨rfl, HF.out, Fr.set (F := At b) rfl _⟩
    · rw [tk_ok (by omega)]
      have hn' : ¬ ((mk r).size : Int) < (n : Int) := by rw [hm]; omega
      have s1 := cut_to r n (n : Int) rfl (by omega)
      have s2 := cut_from r n (n : Int) rfl (by omega)
      have HF : Hid (RD b (r.drop n, false) (w.setCell ⟨b, 0, none⟩ (.string (mk (r.drop n))))) := hid_of (set_at (i := 0) HD.out (.string (mk (r.drop n))))
      simp only
      clear hm hn
      generalize mk (r.take n) = T at *
      generalize mk (r.drop n) = U at *
      generalize mk r = X at *
      go_enter Tryz.func133, Tryz.ntmps133
      go_wp2
      go_ret
      exact ⟨rfl, HF.out, Fr.set (F := At b) rfl _⟩
  · rw [tk_bad]
    have HF : Hid (RD b (r, true) (w.setCell ⟨b, 1, none⟩ (.bool true))) := hid_of (set_at (i := 1) HD.out (.bool true))
    simp only
    clear hm
    generalize mk r = X at *
    go_enter Tryz.func133, Tryz.ntmps133
    go_wp2
    go_ret
    exact ⟨rfl, HF.out, Fr.set (F := At b) rfl _⟩
theorem unN_V (t : Bs) : unfV (mk t) = (unN t : Int) := by
  unfold unfV unfB unN
  rw [mk_size]
  by_cases h : 1 ≤ t.length ∧ t.length ≤ 8
  · rw [if_pos h, if_pos (decide_eq_true h)]; rfl
  · rw [if_neg h, if_neg (by simpa using h)]; rfl
set_option maxHeartbeats 1000000 in
set_option maxRecDepth 100000 in
theorem number_call (b n : Nat) (s : RS) (w : World) (h : RD b s w) (hl : s.1.length ≤ 140737488355328) :
    Calls Tryz.prog 115 #[ptr b, .int .i64 n] w fun e w' => e = .returned (.int .u64 (nbS n s).1) ∧ RD b (nbS n s).2 w' ∧ Fr (At b) w w' := by
  have HT := hid_of (take_call b n s w h hl)
  have HU := hid_of fun W => Unfix.unfix_any (mk (tkS n s).1) W
  rw [unN_V] at HU
  unfold nbS
  simp only
  generalize (tkS n s).2 = s2 at *
  generalize unN (tkS n s).1 = N at *
  generalize mk (tkS n s).1 = T at *
  generalize unfE T = E at *
  clear h
  go_enter Tryz.func115, Tryz.ntmps115
  go_wp2_with fail
  refine HT.out.mono ?_
  rintro e w1 ⟨rfl, d1, f1⟩
  have H1 := hid_of (And.intro d1 f1)
  clear d1 f1
  go_wp2_with fail
  refine (HU.out w1).mono ?_
  rintro e w2 ⟨rfl, hw2⟩
  rw [hw2]
  clear hw2
  go_wp2_with fail
  go_ret
  exact ⟨rfl, H1.out⟩
set_option maxRecDepth 100000 in
theorem sclone_call (X : ByteArray) (w : World) (h : X.size ≤ 281474976710656) : Calls Tryz.prog 82 #[.string X] w fun e w' => e = .returned (.string X) ∧ Below w.heap.size w w' := by
  have HC := hid_of (Tryz.stringslite_Clone X w h)
  go_enter Tryz.func82, Tryz.ntmps82
  go_wp2_with fail
  refine HC.out.mono ?_
  rintro e w1 ⟨rfl, b1⟩
  have B1 := hid_of b1
  clear b1
  go_wp2_with fail
  go_ret
  exact ⟨rfl, B1.out⟩
set_option maxHeartbeats 1000000 in
set_option maxRecDepth 100000 in
theorem text_call (b : Nat) (s : RS) (w : World) (h : RD b s w) (hl : s.1.length ≤ 140737488355328) :
    Calls Tryz.prog 116 #[ptr b] w fun e w' => e = .returned (.string (mk (txS s).1)) ∧ RD b (txS s).2 w' ∧ Fr (At b) w w' := by
  have HN := hid_of (number_call b 4 s w h hl)
  have HT := hid_of fun (W : World) (hW : RD b (nbS 4 s).2 W) => take_call b (nbS 4 s).1 (nbS 4 s).2 W hW (Nat.le_trans (nb_le 4 s) hl)
  have hlt := nb_lt 4 s (by decide)
  have HC := hid_of fun W => sclone_call (mk (txS s).1) W (by rw [mk_size]; have := (tx_le s).2; omega)
  rw [show tkS (nbS 4 s).1 (nbS 4 s).2 = txS s from rfl] at HT
  have hb : IntKind.i64.wrap ((nbS 4 s).1 : Int) = ((nbS 4 s).1 : Int) := IntWalk.i64_in _ (by omega)
  generalize (nbS 4 s).1 = N at *
  generalize (nbS 4 s).2 = s1 at *
  generalize (txS s).2 = s2 at *
  generalize mk (txS s).1 = T at *
  clear h
  go_enter Tryz.func116, Tryz.ntmps116
  go_wp2_with fail
  refine HN.out.mono ?_
  rintro e w1 ⟨rfl, d1, f1⟩
  have HT1 := hid_of (HT.out w1 d1)
  have F1 := hid_of f1
  clear d1 f1 HT HN
  go_wp2_with fail
  refine HT1.out.mono ?_
  rintro e w2 ⟨rfl, d2, f2⟩
  have F2 := hid_of (And.intro d2 (fr_go F1.out f2))
  clear d2 f2 HT1
  go_wp2_with fail
  refine (HC.out w2).mono ?_
  rintro e w3 ⟨rfl, b3⟩
  have F3 := hid_of (And.intro (F2.out.1.fr b3) (fr_b F2.out.2 b3))
  clear b3 HC
  go_wp2_with fail
  go_ret
  exact ⟨rfl, F3.out⟩
theorem rdr_low {b : Nat} {s : RS} {w : World} (h : RD b s w) : b < w.heap.size := lt_of h
/- a box behind the reader's, through a call that turns the reader alone -/
theorem fr_box {b g : Nat} {w w' : World} {o : Obj} (h : w.heap[g]? = some o) (f : Fr (At b) w w') (hg : g ≠ b) : w'.heap[g]? = some o := (f.block g (lt_of h) hg).trans h
theorem fr_new {b : Nat} {w w' : World} {o : Obj} (f : Fr (At b) (w.alloc o) w') : Fr (At b) w w' := fr_go (Fr.of_below (FRow.bnew w o)) f
theorem fr_set {b g i : Nat} {w w' : World} {v : Value} (f : Fr (At b) w w') (hg : w.heap.size ≤ g) : Fr (At b) w (w'.setCell ⟨g, i, none⟩ v) := f.trans ((Fr.set (F := At g) rfl v).mono fun k _ e => Or.inr (by rw [e]; exact hg))
set_option maxHeartbeats 1000000 in
set_option maxRecDepth 100000 in
theorem field_call (b : Nat) (s : RS) (w : World) (h : RD b s w) (hl : s.1.length ≤ 140737488355328) :
    Calls Tryz.prog 119 #[ptr b] w fun e w' => e = .returned (.agg #[.string (mk (fdS s).1.1), .string (mk (fdS s).1.2)]) ∧ RD b (fdS s).2 w' ∧ Fr (At b) w w' := by
  have hbw := rdr_low h
  obtain ⟨V, hV⟩ : ∃ V, V = w.alloc (.cells #[.string ⟨#[]⟩, .string ⟨#[]⟩] 118) := ⟨_, rfl⟩
  have bV : Below w.heap.size w V := by rw [hV]; exact FRow.bnew w _
  have v0 : V.heap[w.heap.size]? = some (.cells #[.string ⟨#[]⟩, .string ⟨#[]⟩] 118 (0, 0)) := by rw [hV]; exact heap_alloc_new w _
  have H1 := hid_of (text_call b s V (h.fr bV) hl)
  have H2 := hid_of fun (W : World) (hW : RD b (txS s).2 W) => text_call b (txS s).2 W hW (Nat.le_trans (tx_le s).1 hl)
  unfold fdS
  simp only
  generalize (txS (txS s).2).2 = s2 at *
  generalize mk (txS (txS s).2).1 = T2 at *
  generalize (txS s).2 = s1 at *
  generalize mk (txS s).1 = T1 at *
  have HV := hid_of hV
  have HX := hid_of fun (W : World) (hW : Fr (At b) V W) => fr_box v0 hW (by omega)
  have HB := hid_of (fun W (hW : Fr (At b) V W) => fr_go (Fr.of_below bV) hW)
  clear h v0 bV hV
  go_enter Tryz.func119, Tryz.ntmps119
  go_wp2_with fail
  rw [← HV.out]
  refine H1.out.mono ?_
  rintro e w1 ⟨rfl, d1, f1⟩
  have H21 := hid_of (H2.out w1 d1)
  have F1 := hid_of f1
  clear d1 f1 H2 H1
  go_wp2_with fail
  refine H21.out.mono ?_
  rintro e w2 ⟨rfl, d2, f2⟩
  have x2 := HX.out w2 (fr_go F1.out f2)
  obtain ⟨⟨c0, c1⟩, z⟩ := box2 x2
  have z0 := z 0
  have z1 := z 1
  have D2 := hid_of (And.intro d2 (And.intro (HB.out _ (fr_go F1.out f2)) x2))
  clear d2 f2 H21 z x2 F1
  go_wp2_with fail
  obtain ⟨d2, f2, x2⟩ := D2.out
  obtain ⟨⟨g0, g1⟩, _⟩ := box2 (set_at (i := 1) (set_at (i := 0) x2 (.string T1)) (.string T2))
  refine ⟨rfl, .agg #[.string T1, .string T2], ?_, rfl, ?_, fr_set (fr_set f2 (Nat.le_refl _)) (Nat.le_refl _)⟩
  · simp [results, Tryz.results119, go_sem, g0, g1]
  · exact (set_ne (by omega) _).trans ((set_ne (by omega) _).trans d2)
theorem conv_any (n : Nat) : IntKind.i64.wrap (n : Int) = IntKind.i64.wrap n := rfl
set_option maxHeartbeats 1000000 in
set_option maxRecDepth 100000 in
theorem scored_call (b : Nat) (s : RS) (w : World) (h : RD b s w) (hl : s.1.length ≤ 140737488355328) :
    Calls Tryz.prog 121 #[ptr b] w fun e w' => e = .returned (.agg #[.string (mk (scS s).1.1), .int .i64 (scS s).1.2]) ∧ RD b (scS s).2 w' ∧ Fr (At b) w w' := by
  have hbw := rdr_low h
  obtain ⟨V, hV⟩ : ∃ V, V = w.alloc (.cells #[.string ⟨#[]⟩, .int .i64 0] 120) := ⟨_, rfl⟩
  have bV : Below w.heap.size w V := by rw [hV]; exact FRow.bnew w _
  have v0 : V.heap[w.heap.size]? = some (.cells #[.string ⟨#[]⟩, .int .i64 0] 120 (0, 0)) := by rw [hV]; exact heap_alloc_new w _
  have H1 := hid_of (number_call b 8 s V (h.fr bV) hl)
  have H2 := hid_of fun (W : World) (hW : RD b (nbS 8 s).2 W) => text_call b (nbS 8 s).2 W hW (Nat.le_trans (nb_le 8 s) hl)
  unfold scS
  simp only
  generalize (txS (nbS 8 s).2).2 = s2 at *
  generalize mk (txS (nbS 8 s).2).1 = T2 at *
  generalize (nbS 8 s).2 = s1 at *
  generalize ((nbS 8 s).1 : Int) = N at *
  have HV := hid_of hV
  have HX := hid_of fun (W : World) (hW : Fr (At b) V W) => fr_box v0 hW (by omega)
  have HB := hid_of (fun W (hW : Fr (At b) V W) => fr_go (Fr.of_below bV) hW)
  clear h v0 bV hV
  go_enter Tryz.func121, Tryz.ntmps121
  go_wp2_with fail
  rw [← HV.out]
  refine H1.out.mono ?_
  rintro e w1 ⟨rfl, d1, f1⟩
  have H21 := hid_of (H2.out w1 d1)
  have F1 := hid_of f1
  clear d1 f1 H2 H1
  go_wp2_with fail
  refine H21.out.mono ?_
  rintro e w2 ⟨rfl, d2, f2⟩
  have x2 := HX.out w2 (fr_go F1.out f2)
  obtain ⟨⟨c0, c1⟩, z⟩ := box2 x2
  have z0 := z 0
  have z1 := z 1
  have D2 := hid_of (And.intro d2 (And.intro (HB.out _ (fr_go F1.out f2)) x2))
  clear d2 f2 H21 z x2 F1
  go_wp2_with fail
  obtain ⟨d2, f2, x2⟩ := D2.out
  obtain ⟨⟨g0, g1⟩, _⟩ := box2 (set_at (i := 1) (set_at (i := 0) x2 (.string T2)) (.int .i64 (wrap64 N)))
  refine ⟨rfl, .agg #[.string T2, .int .i64 (wrap64 N)], ?_, by rw [IntWalk.i64_left], ?_, fr_set (fr_set f2 (Nat.le_refl _)) (Nat.le_refl _)⟩
  · simp [results, Tryz.results121, go_sem, g0, g1]
  · exact (set_ne (by omega) _).trans ((set_ne (by omega) _).trans d2)
end Go.Proofs.YtpnigkjmofhmbabGreat.Rdr
end
section
namespace Go.Proofs.YtpnigkjmofhmbabGreat.Elem
open Go.RowKit Go.Maps
open Go.Proofs.YtpnigkjmofhmbabGreat.SetMath
open Go.Proofs.YtpnigkjmofhmbabGreat.BytesMath
open Go.Proofs.YtpnigkjmofhmbabGreat.ValueMath
open Go.Proofs.YtpnigkjmofhmbabGreat.ReadMath
open Go.Proofs.YtpnigkjmofhmbabGreat.Base
open Go.Proofs.YtpnigkjmofhmbabGreat.Vals
open Go.Proofs.YtpnigkjmofhmbabGreat.Rdr
set_option linter.unusedVariables false

theorem many_len {α : Type} {p : Bs → Option (α × Bs)} {k : Nat} (hp : ∀ s x r, p s = some (x, r) → r.length + k ≤ s.length) : ∀ (n : Nat) (s : Bs) (l : List α) (r : Bs), many p n s = some (l, r) → r.length + n * k ≤ s.length
  | 0, s, l, r, h => by
    injection h with h
    injection h with h1 h2
    subst h2
    omega
  | n + 1, s, l, r, h => by
    obtain ⟨⟨x, r1⟩, h1, h2⟩ := Option.bind_eq_some_iff.1 h
    obtain ⟨⟨t, r2⟩, h3, h4⟩ := Option.bind_eq_some_iff.1 h2
    injection h4 with h4
    injection h4 with h5 h6
    simp only at h3 h6
    subst h6
    have e1 := hp _ _ _ h1
    have e2 := many_len hp n _ _ _ h3
    have e3 : (n + 1) * k = n * k + k := Nat.succ_mul n k
    omega
theorem len_T {s x r : Bs} (h : rdT s = some (x, r)) : r.length + 4 ≤ s.length := by
  rw [(rdT_some h).1]; unfold encT; rw [List.length_append, List.length_append, len_le4]; omega
theorem len_F {s r : Bs} {x : Bs × Bs} (h : rdF s = some (x, r)) : r.length + 8 ≤ s.length := by
  rw [(rdF_some h).1]; unfold encF encT; simp only [List.length_append, len_le4]; omega
theorem len_E {s r : Bs} {x : Bs × Int} (h : rdE s = some (x, r)) : r.length + 12 ≤ s.length := by
  rw [(rdE_some h).1]; unfold encE encT; simp only [List.length_append, len_le4, len_le8]; omega
/- many, one behind the other -/
theorem many_step {α : Type} {p : Bs → Option (α × Bs)} {n m : Nat} {r1 r r' : Bs} {xs : List α} {x : α} (h : many p n r1 = (many p (m + 1) r).bind fun t => some (xs ++ t.1, t.2)) (hp : p r = some (x, r')) : many p n r1 = (many p m r').bind fun t => some ((xs ++ [x]) ++ t.1, t.2) := by
  rw [h]
  show (((p r).bind fun q => (many p m q.2).bind fun t => some (q.1 :: t.1, t.2)).bind _) = _
  rw [hp]
  show (((many p m r').bind fun t => some (x :: t.1, t.2)).bind _) = _
  cases many p m r' with
  | none => rfl
  | some q => simp
theorem many_stop {α : Type} {p : Bs → Option (α × Bs)} {n m : Nat} {r1 r : Bs} {xs : List α} (h : many p n r1 = (many p (m + 1) r).bind fun t => some (xs ++ t.1, t.2)) (hp : p r = none) : many p n r1 = none := by
  rw [h]
  show (((p r).bind fun q => (many p m q.2).bind fun t => some (q.1 :: t.1, t.2)).bind _) = _
  rw [hp]
  rfl
theorem many_done {α : Type} {p : Bs → Option (α × Bs)} {n : Nat} {r1 r : Bs} {xs : List α} (h : many p n r1 = (many p 0 r).bind fun t => some (xs ++ t.1, t.2)) : many p n r1 = some (xs, r) := by
  rw [h]
  show some (xs ++ [], r) = _
  rw [List.append_nil]
theorem fr_low {F : Nat → Prop} {a c d : World} (h : Fr F a c) (k : Below a.heap.size c d) : Fr F a d :=
  ⟨k.os.trans h.os, k.tape.trans h.tape, k.output.trans h.output, Nat.le_trans h.size k.size, fun i hi hn => (k.block i hi).trans (h.block i hi hn)⟩
theorem nr_fr {B b : Nat} {w w' : World} {v : Value} {l : List El} (h : NR B w v l) (f : Fr (At b) w w') (hb : b < B) : NR B w' v l := h.keep fun k hk hB => f.block k hk (by intro e; have : k = b := e; omega)
theorem row_fr {B b e sz n : Nat} {w w' : World} {v : Value} {xs : List Value} (h : w.ownsRow B e sz v n xs) (f : Fr (At b) w w') (hb : b < B) : w'.ownsRow B e sz v n xs := by
  refine ⟨h.1, h.2.imp id ?_⟩
  rintro ⟨g, cap, cur, rfl, hbg, hg, rest⟩
  exact ⟨g, cap, cur, rfl, hbg, (f.block g (lt_of hg) (by intro e; have : g = b := e; omega)).trans hg, rest⟩

theorem appFRow {B : Nat} {w : World} {v : Value} {l : FRow.LL} (x : FRow.EN) (h : FRow.OR B w v l) (hb : l.length + 1 ≤ FRow.big) (hB : B ≤ w.heap.size) :
    ∃ v' w', (Builtin.append_ #[35, 35] 35 #[v, .slice (some ⟨w.heap.size, 0, none⟩) 1 1]).run Tryz.prog (w.alloc (.cells #[.string (mk x.1), .string (mk x.2)] 118)) = .ok v' w' ∧ FRow.OR B w' v' (l ++ [x]) ∧ Below B w w' := by
  have b1 := FRow.bnew w (.cells #[.string (mk x.1), .string (mk x.2)] 118)
  obtain ⟨v', w', h1, h2, h3⟩ := FRow.append_fs B _ v _ l [x] (FRow.row_below h b1) (FRow.fs_one w x) (Nat.le_trans hB b1.size) (by simpa using hb)
  exact ⟨v', w', h1, h2, (b1.mono hB).trans ((Below.refl B _).grown h3 (Nat.le_trans hB b1.size) (fun k hk => ((FRow.row_below h b1).lt k hk).1))⟩

theorem appERow {B : Nat} {w : World} {v : Value} {l : ERow.LL} (x : ERow.EN) (h : ERow.OR B w v l) (hb : l.length + 1 ≤ ERow.big) (hB : B ≤ w.heap.size) :
    ∃ v' w', (Builtin.append_ #[36, 36] 36 #[v, .slice (some ⟨w.heap.size, 0, none⟩) 1 1]).run Tryz.prog (w.alloc (.cells #[.string (mk x.1), .int .i64 x.2] 120)) = .ok v' w' ∧ ERow.OR B w' v' (l ++ [x]) ∧ Below B w w' := by
  have b1 := ERow.bnew w (.cells #[.string (mk x.1), .int .i64 x.2] 120)
  obtain ⟨v', w', h1, h2, h3⟩ := ERow.append_fs B _ v _ l [x] (ERow.row_below h b1) (ERow.fs_one w x) (Nat.le_trans hB b1.size) (by simpa using hb)
  exact ⟨v', w', h1, h2, (b1.mono hB).trans ((Below.refl B _).grown h3 (Nat.le_trans hB b1.size) (fun k hk => ((ERow.row_below h b1).lt k hk).1))⟩
end Go.Proofs.YtpnigkjmofhmbabGreat.Elem
end
