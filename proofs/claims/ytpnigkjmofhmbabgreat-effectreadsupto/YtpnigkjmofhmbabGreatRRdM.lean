/- The document's reader: a number, a text. A region whose last operation waits for all others: a condition on the world that holds behind every operation but that one. A region whose last operation waits for another one, over however many between. A step of append inside a drawn region. The document's Decode: what it holds between two operations, and the mathematics of its loop. -/
import Derived.Test.YtpnigkjmofhmbabGreatRdM
import Derived.OrdersHeld
import Derived.RegionTactic
import Derived.Test.YtpnigkjmofhmbabGreatEqualM
import Derived.Test.YtpnigkjmofhmbabGreatDecM
import Derived.Test.YtpnigkjmofhmbabGreatRCheckM
section
namespace Go.Proofs.YtpnigkjmofhmbabGreat.RRd
open Go.RowKit Go.Maps
open Go.Proofs.YtpnigkjmofhmbabGreat.SetMath
open Go.Proofs.YtpnigkjmofhmbabGreat.BytesMath
open Go.Proofs.YtpnigkjmofhmbabGreat.ValueMath
open Go.Proofs.YtpnigkjmofhmbabGreat.ReadMath
open Go.Proofs.YtpnigkjmofhmbabGreat.Base
open Go.Proofs.YtpnigkjmofhmbabGreat.Vals
open Go.Proofs.YtpnigkjmofhmbabGreat.Rdr
set_option linter.unusedVariables false
set_option linter.unusedSimpArgs false
/- the reader at block b over the text S: what is left, and whether it has failed -/
def RR (b : Nat) (S : Bs) (s : RS) (w : World) : Prop := ∃ k : Nat, k ≤ S.length ∧ s.1 = S.drop k ∧ w.heap[b]? = some (.cells #[.string (mk S), .int .i64 (k : Int), .bool s.2] 151 (0, 0))
theorem rr_lt {b : Nat} {S : Bs} {s : RS} {w : World} (h : RR b S s w) : b < w.heap.size := by
  obtain ⟨k, _, _, h⟩ := h
  exact lt_of h
theorem rr_keep {b : Nat} {S : Bs} {s : RS} {w w' : World} (h : RR b S s w) (hk : w'.heap[b]? = w.heap[b]?) : RR b S s w' := by
  obtain ⟨k, h1, h2, h3⟩ := h
  exact ⟨k, h1, h2, hk.trans h3⟩
theorem cut_two (l : Bs) (i j : Nat) (x y : Int) (hx : x = (i : Int)) (hy : y = (j : Int)) (hij : i ≤ j) (hj : j ≤ l.length) (w : World) :
    (Instr.slice 9 (.string (mk l)) (some (.int .i64 x)) (some (.int .i64 y)) none).run Tryz.prog w = .ok (.string (mk ((l.drop i).take (j - i)))) w := by
  subst hx; subst hy
  have e : bs ((mk l).extract i j) = (l.drop i).take (j - i) := by unfold bs mk; simp [List.extract_eq_take_drop]
  rw [run_slice_string_if (P := Tryz.prog) (w := w) 9 (mk l) .i64 .i64 (i : Int) (j : Int) Tryz.underlying9, if_pos ⟨by omega, by rw [mk_size]; omega⟩, if_pos ⟨by omega, by omega⟩]
  rw [← e, mk_bs]
  rfl
theorem fr_q {b i n : Nat} {w : World} (v : Value) : Fr (At b) w ((w.drewN n).setCell ⟨b, i, none⟩ v) := fr_go ((Fr.refl (At b) w).drewN n) (Fr.set (F := At b) rfl _)
theorem fr_qq {b i n m : Nat} {w : World} (v : Value) : Fr (At b) w (((w.drewN n).drewN m).setCell ⟨b, i, none⟩ v) := fr_go (((Fr.refl (At b) w).drewN n).drewN m) (Fr.set (F := At b) rfl _)
set_option maxHeartbeats 1000000 in
set_option maxRecDepth 100000 in
theorem number_call (b n : Nat) (S : Bs) (s : RS) (w : World) (h : RR b S s w) (hl : S.length ≤ 140737488355328) (hn8 : n ≤ 8) :
    Calls Tryz.prog 86 #[ptr b, .int .i64 n] w fun e w' => e = .returned (.int .u64 (nbS n s).1) ∧ RR b S (nbS n s).2 w' ∧ Fr (At b) w w' := by
  obtain ⟨k, hk, hs, h⟩ := h
  obtain ⟨r, f⟩ := s
  simp only at hs h
  subst hs
  obtain ⟨⟨c0, c1, c2⟩, z⟩ := box3 h
  have z1 := z 1
  have z2 := z 2
  have HD := hid_of h
  have hm := mk_size S
  have hlen : (S.drop k).length = S.length - k := List.length_drop
  have HU := hid_of fun W => Unfix.runfix_any (mk ((S.drop k).take n)) W
  rw [unN_V] at HU
  clear h z
  cases f
  · by_cases hn : (S.drop k).length < n
    · have e : nbS n (S.drop k, false) = (0, S.drop k, true) := by unfold nbS; rw [tk_no false hn]; rfl
      rw [e]
      have HF : Hid (RR b S (S.drop k, true) (w.setCell ⟨b, 2, none⟩ (.bool true))) := hid_of ⟨k, hk, rfl, set_at (i := 2) HD.out (.bool true)⟩
      have q0 : IntKind.i64.wrap (((mk S).size : Int) - (k : Int)) = ((mk S).size : Int) - (k : Int) := IntWalk.i64_in _ (by omega)
      have q1 : decide (((mk S).size : Int) - (k : Int) < (n : Int)) = true := decide_eq_true (by rw [hm]; omega)
      clear hm hn hlen e HU HD
      generalize mk S = X at *
      go_enter Tryz.func86, Tryz.ntmps86
      go_wp2_with fail
      go_quiet (fail)
      go_wp2_with fail
      go_ret
      exact ⟨rfl, HF.out, fr_q _⟩
    · have e : nbS n (S.drop k, false) = (unN ((S.drop k).take n), S.drop (k + n), false) := by unfold nbS; rw [tk_ok (by omega)]; simp only [List.drop_drop]
      rw [e]
      have HF : Hid (RR b S (S.drop (k + n), false) (w.setCell ⟨b, 1, none⟩ (.int .i64 ((k : Int) + (n : Int))))) := hid_of ⟨k + n, by omega, rfl, by
        have := set_at (i := 1) HD.out (.int .i64 ((k : Int) + (n : Int)))
        simpa using this⟩
      have q0 : IntKind.i64.wrap (((mk S).size : Int) - (k : Int)) = ((mk S).size : Int) - (k : Int) := IntWalk.i64_in _ (by omega)
      have q1 : decide (((mk S).size : Int) - (k : Int) < (n : Int)) = false := decide_eq_false (by rw [hm]; omega)
      have q2 : IntKind.i64.wrap ((k : Int) + (n : Int)) = (k : Int) + (n : Int) := IntWalk.i64_in _ (by omega)
      have s1 := cut_two S k (k + n) (k : Int) ((k : Int) + (n : Int)) rfl (by omega) (by omega) (by omega)
      rw [show k + n - k = n by omega] at s1
      simp only
      clear hm hn hlen e HD
      generalize unN ((S.drop k).take n) = N at *
      generalize mk ((S.drop k).take n) = T at *
      generalize unfE T = E at *
      generalize mk S = X at *
      go_enter Tryz.func86, Tryz.ntmps86
      go_wp2_with fail
      go_quiet (fail)
      go_wp2_with fail
      go_quiet (first | exact (HU.out _).mono fun _ _ h => ⟨h.1, _, h.2⟩)
      go_wp2_with fail
      go_ret
      exact ⟨rfl, HF.out, fr_q _⟩
  · rw [nb_bad]
    have HF : Hid (RR b S (S.drop k, true) (w.setCell ⟨b, 2, none⟩ (.bool true))) := hid_of ⟨k, hk, rfl, set_at (i := 2) HD.out (.bool true)⟩
    clear hm hlen HU HD
    generalize mk S = X at *
    go_enter Tryz.func86, Tryz.ntmps86
    go_wp2_with fail
    go_quiet (fail)
    go_wp2_with fail
    go_ret
    exact ⟨rfl, HF.out, fr_q _⟩
theorem tx_def (s : RS) : txS s = tkS (nbS 4 s).1 (nbS 4 s).2 := rfl
set_option maxHeartbeats 1000000 in
set_option maxRecDepth 100000 in
theorem text_call (b : Nat) (S : Bs) (s : RS) (w : World) (h : RR b S s w) (hl : S.length ≤ 140737488355328) :
    Calls Tryz.prog 87 #[ptr b] w fun e w' => e = .returned (.string (mk (txS s).1)) ∧ RR b S (txS s).2 w' ∧ Fr (At b) w w' := by
  have HN := hid_of (number_call b 4 S s w h hl (by decide))
  have hlt := nb_lt 4 s (by decide)
  rw [tx_def]
  have hb : IntKind.i64.wrap ((nbS 4 s).1 : Int) = ((nbS 4 s).1 : Int) := IntWalk.i64_in _ (by omega)
  have hm := mk_size S
  generalize (nbS 4 s).1 = N at *
  obtain ⟨⟨r, f⟩, hrf⟩ : ∃ q, q = (nbS 4 s).2 := ⟨_, rfl⟩
  rw [← hrf] at HN ⊢
  clear h hrf
  cases f
  · by_cases hn : r.length < N
    · rw [tk_no false hn]
      simp only
      go_enter Tryz.func87, Tryz.ntmps87
      go_wp2_with fail
      refine HN.out.mono ?_
      rintro e w1 ⟨rfl, d1, f1⟩
      obtain ⟨k, hk, hs, d1⟩ := d1
      simp only at hs d1
      obtain ⟨⟨c0, c1, c2⟩, z⟩ := box3 d1
      have z1 := z 1
      have z2 := z 2
      have F1 := hid_of f1
      have hlen : (S.drop k).length = S.length - k := List.length_drop
      subst hs
      have HF : Hid (RR b S (S.drop k, true) (w1.setCell ⟨b, 2, none⟩ (.bool true))) := hid_of ⟨k, hk, rfl, set_at (i := 2) d1 (.bool true)⟩
      have q0 : IntKind.i64.wrap (((mk S).size : Int) - (k : Int)) = ((mk S).size : Int) - (k : Int) := IntWalk.i64_in _ (by omega)
      have q1 : decide (((mk S).size : Int) - (k : Int) < (N : Int)) = true := decide_eq_true (by rw [hm]; omega)
      clear hm hn hlen d1 f1 z HN
      generalize mk S = X at *
      go_wp2_with fail
      go_quiet (fail)
      go_wp2_with fail
      go_ret
      exact ⟨rfl, HF.out, fr_go F1.out (fr_q _)⟩
    · rw [tk_ok (by omega)]
      simp only
      go_enter Tryz.func87, Tryz.ntmps87
      go_wp2_with fail
      refine HN.out.mono ?_
      rintro e w1 ⟨rfl, d1, f1⟩
      obtain ⟨k, hk, hs, d1⟩ := d1
      simp only at hs d1
      obtain ⟨⟨c0, c1, c2⟩, z⟩ := box3 d1
      have z1 := z 1
      have z2 := z 2
      have F1 := hid_of f1
      have hlen : (S.drop k).length = S.length - k := List.length_drop
      subst hs
      have HF : Hid (RR b S ((S.drop k).drop N, false) (w1.setCell ⟨b, 1, none⟩ (.int .i64 ((k : Int) + (N : Int))))) := hid_of ⟨k + N, by omega, by simp, by
        have := set_at (i := 1) d1 (.int .i64 ((k : Int) + (N : Int)))
        simpa using this⟩
      have q0 : IntKind.i64.wrap (((mk S).size : Int) - (k : Int)) = ((mk S).size : Int) - (k : Int) := IntWalk.i64_in _ (by omega)
      have q1 : decide (((mk S).size : Int) - (k : Int) < (N : Int)) = false := decide_eq_false (by rw [hm]; omega)
      have q2 : IntKind.i64.wrap ((k : Int) + (N : Int)) = (k : Int) + (N : Int) := IntWalk.i64_in _ (by omega)
      have q3 : IntKind.i64.wrap ((k : Int) + (N : Int) - (N : Int)) = (k : Int) := by rw [show (k : Int) + (N : Int) - (N : Int) = (k : Int) by omega]; exact IntWalk.i64_in _ (by omega)
      have q4 : (k : Int) + (N : Int) - (N : Int) = (k : Int) := by omega
      have s1 := cut_two S k (k + N) (k : Int) ((k : Int) + (N : Int)) rfl (by omega) (by omega) (by omega)
      rw [show k + N - k = N by omega] at s1
      obtain ⟨T, hT⟩ : ∃ T, T = mk ((S.drop k).take N) := ⟨_, rfl⟩
      rw [← hT] at s1
      have HT := hid_of hT
      clear hm hn hlen d1 f1 z HN hT
      generalize mk S = X at *
      go_wp2_with fail
      go_quiet (fail)
      go_wp2_with fail
      go_quiet (fail)
      go_wp2_with fail
      go_ret
      exact ⟨by show Ending.returned (Value.string T) = _; rw [HT.out], HF.out, fr_go F1.out ((fr_q _).drewN _)⟩
  · rw [tk_bad]
    simp only
    go_enter Tryz.func87, Tryz.ntmps87
    go_wp2_with fail
    refine HN.out.mono ?_
    rintro e w1 ⟨rfl, d1, f1⟩
    obtain ⟨k, hk, hs, d1⟩ := d1
    simp only at hs d1
    obtain ⟨⟨c0, c1, c2⟩, z⟩ := box3 d1
    have z1 := z 1
    have z2 := z 2
    have F1 := hid_of f1
    have hlen : (S.drop k).length = S.length - k := List.length_drop

    subst hs
    have HF : Hid (RR b S (S.drop k, true) (w1.setCell ⟨b, 2, none⟩ (.bool true))) := hid_of ⟨k, hk, rfl, set_at (i := 2) d1 (.bool true)⟩
    clear hm hlen d1 f1 z HN
    generalize mk S = X at *
    go_wp2_with fail
    go_quiet (fail)
    go_wp2_with fail
    go_ret
    exact ⟨rfl, HF.out, fr_go F1.out (fr_q _)⟩
end Go.Proofs.YtpnigkjmofhmbabGreat.RRd
end
section
namespace Go.Proofs.YtpnigkjmofhmbabGreat.Last
open Go
section
variable {P : Program} {ops : Array Oper} {Q : Exit → Act → World → Prop} {md : Region.Mode} {S : World → Prop} {L : Nat}
def wpAnyE (P : Program) (md : Region.Mode) (ops : Array Oper) (Q : Exit → Act → World → Prop) (S : World → Prop) (L : Nat) : Nat → Array Bool → Act → World → Prop
  | 0, listed, a, w => Region.ready md ops listed = [] ∧ Q .normal a w
  | fuel + 1, listed, a, w =>
    (Region.ready md ops listed = [] → Q .normal a w) ∧
    ∀ i ∈ Region.ready md ops listed, wpOp P ops Q i (fun a' w' => (i ≠ L → S w') ∧ wpAnyE P md ops Q S L fuel (listed.setIfInBounds i true) a' w') a w
theorem wpAny_of_E : ∀ (fuel : Nat) (listed : Array Bool) (a : Act) (w : World), wpAnyE P md ops Q S L fuel listed a w → wpAny P md ops Q fuel listed a w
  | 0, _, _, _, h => h
  | fuel + 1, _, _, _, h => ⟨h.1, fun i hi => wpOp_mono (fun a' w' h' => wpAny_of_E fuel _ a' w' h'.2) (h.2 i hi)⟩
theorem wpAnyE_first {i : Nat} {oi : Oper} {v : Value} (hi : ops[i]? = some oi) (hsel : ∀ (j : Nat) (o : Oper) cs b, ops[j]? = some o → o.op ≠ .select cs b)
    (hQ : ∀ c a w, Q (.panic c) (a.put oi.dst v) w → Q (.panic c) a w) (hL : ∀ oL, ops[L]? = some oL → ∃ e ∈ oL.after, Region.binds md e = true ∧ e.on = i) (hiL : i ≠ L) :
    ∀ (fuel : Nat) (listed : Array Bool) (a : Act) (w : World),
      (∀ j oj, ops[j]? = some oj → j ≠ i → listed.getD j true = false → (∀ e ∈ oj.after, Region.binds md e = true → e.on ≠ i) → oi.apart ops oj = true) →
      i ∈ Region.ready md ops listed → YieldsIf P ops S oi v a → S w →
      wpAnyE P md ops Q S L fuel (listed.setIfInBounds i true) (a.put oi.dst v) w → wpAnyE P md ops Q S L (fuel + 1) listed a w := by
  intro fuel
  induction fuel with
  | zero =>
    intro listed a w _ hr hy hS H
    refine ⟨fun h => (by rw [h] at hr; cases hr), fun j hj => ?_⟩
    by_cases hji : j = i
    · subst hji; exact hy.wpOp hi hS ⟨fun _ => hS, H⟩
    · have := ready_mono hj hji
      rw [H.1] at this
      cases this
  | succ fuel ih =>
    intro listed a w hfree hr hy hS H
    refine ⟨fun h => (by rw [h] at hr; cases hr), fun j hj => ?_⟩
    by_cases hji : j = i
    · subst hji; exact hy.wpOp hi hS ⟨fun _ => hS, H⟩
    · have h1 := H.2 j (ready_mono hj hji)
      obtain ⟨hjun, oj, hoj, hall⟩ := mem_ready.1 hj
      have hnot : ∀ e ∈ oj.after, Region.binds md e = true → e.on ≠ i := fun e he hb heq => by
        have h1 := hall e he hb
        have h0 := (mem_ready.1 hr).1
        rw [heq] at h1
        rcases Nat.lt_or_ge i listed.size with h' | h'
        · simp [h'] at h0 h1; rw [h0] at h1; cases h1
        · simp [Array.getElem?_eq_none h'] at h1
      have hjL : j ≠ L := by
        rintro rfl
        obtain ⟨e, he, hb, heq⟩ := hL oj hoj
        exact hnot e he hb heq
      have h2 := wpOp_putIf hoj (hfree j oj hoj hji hjun hnot) (fun cs b => hsel i oi cs b hi) (fun cs b => hsel j oj cs b hoj) hQ hy h1
      have hfree' : ∀ k ok, ops[k]? = some ok → k ≠ i → (listed.setIfInBounds j true).getD k true = false →
          (∀ e ∈ ok.after, Region.binds md e = true → e.on ≠ i) → oi.apart ops ok = true := fun k ok hk hki hun hno => by
        refine hfree k ok hk hki ?_ hno
        by_cases hjk : j = k
        · subst hjk; exact hjun
        · rw [getD_set_ne true hjk] at hun; exact hun
      refine wpOp_mono (fun a' w' h3 => ⟨h3.2.1, ih (listed.setIfInBounds j true) a' w' hfree' (ready_mono hr (Ne.symm hji)) h3.1 (h3.2.1 hjL) ?_⟩) h2
      rw [Array.setIfInBounds_comm _ _ hji]
      exact h3.2.2
/- the last one waits for number i -/
def waits (md : Region.Mode) (ops : Array Oper) (L i : Nat) : Bool := match ops[L]? with
  | some o => o.after.any (fun e => Region.binds md e && (e.on == i))
  | none => false
theorem waits_spec {i : Nat} (h : waits md ops L i = true) : ∀ oL, ops[L]? = some oL → ∃ e ∈ oL.after, Region.binds md e = true ∧ e.on = i := by
  intro oL ho
  unfold waits at h
  rw [ho] at h
  obtain ⟨j, hj, he⟩ := Array.any_eq_true.1 h
  have := he
  simp only [Bool.and_eq_true, beq_iff_eq] at this
  exact ⟨oL.after[j], Array.getElem_mem hj, this.1, this.2⟩
theorem take {i : Nat} {oi : Oper} {v : Value} {fuel : Nat} {listed : Array Bool} {a : Act} {w : World} (hi : ops[i]? = some oi)
    (hs : Region.noSelect ops = true) (hf : Region.free md ops listed i = true) (hr : (Region.ready md ops listed).contains i = true) (hw : waits md ops L i = true) (hiL : i ≠ L)
    (hQ : ∀ c a w, Q (.panic c) (a.put oi.dst v) w → Q (.panic c) a w) (hy : YieldsIf P ops S oi v a) (hS : S w)
    (h : wpAnyE P md ops Q S L fuel (listed.setIfInBounds i true) (a.put oi.dst v) w) : wpAnyE P md ops Q S L (fuel + 1) listed a w :=
  wpAnyE_first hi (Region.noSelect_spec hs) hQ (waits_spec hw) hiL fuel listed a w (Region.free_spec hi hf) (by simpa using hr) hy hS h
/- one alone may come up -/
theorem one {i : Nat} {o : Oper} {fuel : Nat} {listed : Array Bool} {a : Act} {w : World} (ho : ops[i]? = some o) (hr : Region.ready md ops listed = [i])
    (h : ∀ K' : Act → World → Prop, (∀ a' w', (i ≠ L → S w') → wpAnyE P md ops Q S L fuel (listed.setIfInBounds i true) a' w' → K' a' w') → if Region.wanted o (yielded ops a.tmps) = true then Oper.wp P o a w K' Q else K' (a.put o.dst undef) w) : wpAnyE P md ops Q S L (fuel + 1) listed a w := by
  refine ⟨fun h0 => ?_, fun j hj => ?_⟩
  · rw [hr] at h0; cases h0
  · rw [hr] at hj
    obtain rfl : j = i := List.mem_singleton.1 hj
    exact wpOp_step ho (fun K' hK => h K' (fun a' w' h1 h2 => hK a' w' ⟨h1, h2⟩))
theorem fin {listed : Array Bool} {a : Act} {w : World} (hr : Region.ready md ops listed = []) (h : Q .normal a w) : ∀ fuel, wpAnyE P md ops Q S L fuel listed a w
  | 0 => ⟨hr, h⟩
  | _ + 1 => ⟨fun _ => h, by rw [hr]; simp⟩
theorem start {id : Nat} {a : Act} {w : World} (S : World → Prop) (L : Nat) (hm : P.follows .mixedOrders = true)
    (h : wpAnyE P .any ops Q S L ops.size (Array.replicate ops.size false) a { w with drawn := w.drawn + 1 }) : (Code.region id ops true).wp P Q a w :=
  wp_region_any hm (wpAny_of_E _ _ _ _ h)
end
end Go.Proofs.YtpnigkjmofhmbabGreat.Last
end
section
namespace Go.Proofs.YtpnigkjmofhmbabGreat.Last
open Go
section
variable {P : Program} {ops : Array Oper} {Q : Exit → Act → World → Prop} {md : Region.Mode} {S : World → Prop} {L : Nat}
def needs (md : Region.Mode) (ops : Array Oper) : Nat → Nat → Nat → Bool
  | 0, _, _ => false
  | f + 1, j, i => match ops[j]? with
    | some o => o.after.any (fun e => Region.binds md e && (e.on == i || needs md ops f e.on i))
    | none => false
def Closed (md : Region.Mode) (ops : Array Oper) (listed : Array Bool) : Prop := ∀ (j : Nat) oj, ops[j]? = some oj → listed.getD j false = true → ∀ e ∈ oj.after, Region.binds md e = true → listed.getD e.on false = true
theorem needs_spec {listed : Array Bool} (hc : Closed md ops listed) : ∀ (f j i : Nat) oj, needs md ops f j i = true → ops[j]? = some oj → (∀ e ∈ oj.after, Region.binds md e = true → listed.getD e.on false = true) → listed.getD i false = true
  | 0, _, _, _, h, _, _ => by cases h
  | f + 1, j, i, oj, h, ho, hall => by
    unfold needs at h
    rw [ho] at h
    obtain ⟨k, hk, he⟩ := Array.any_eq_true.1 h
    simp only [Bool.and_eq_true, Bool.or_eq_true, beq_iff_eq] at he
    have hl := hall _ (Array.getElem_mem hk) he.1
    rcases he.2 with e | e
    · rw [e] at hl; exact hl
    · cases hq : ops[oj.after[k].on]? with
      | none =>
        cases f with
        | zero => cases e
        | succ f => unfold needs at e; rw [hq] at e; cases e
      | some o2 => exact needs_spec hc f _ i o2 e hq (hc _ o2 hq hl)
theorem closed_set {listed : Array Bool} (hc : Closed md ops listed) {j : Nat} (hj : j ∈ Region.ready md ops listed) : Closed md ops (listed.setIfInBounds j true) := by
  obtain ⟨h0, o, ho, hall⟩ := mem_ready.1 hj
  intro k ok hk hl e he hb
  apply getD_set_true
  by_cases hjk : j = k
  · subst hjk
    rw [ho] at hk
    cases hk
    exact hall e he hb
  · rw [getD_set_ne false hjk] at hl
    exact hc k ok hk hl e he hb
theorem wpAnyE_first2 {i : Nat} {oi : Oper} {v : Value} {f : Nat} (hi : ops[i]? = some oi) (hsel : ∀ (j : Nat) (o : Oper) cs b, ops[j]? = some o → o.op ≠ .select cs b)
    (hQ : ∀ c a w, Q (.panic c) (a.put oi.dst v) w → Q (.panic c) a w) (hL : needs md ops f L i = true) :
    ∀ (fuel : Nat) (listed : Array Bool) (a : Act) (w : World), Closed md ops listed →
      (∀ j oj, ops[j]? = some oj → j ≠ i → listed.getD j true = false → (∀ e ∈ oj.after, Region.binds md e = true → e.on ≠ i) → oi.apart ops oj = true) →
      i ∈ Region.ready md ops listed → YieldsIf P ops S oi v a → S w →
      wpAnyE P md ops Q S L fuel (listed.setIfInBounds i true) (a.put oi.dst v) w → wpAnyE P md ops Q S L (fuel + 1) listed a w := by
  intro fuel
  induction fuel with
  | zero =>
    intro listed a w _ _ hr hy hS H
    refine ⟨fun h => (by rw [h] at hr; cases hr), fun j hj => ?_⟩
    by_cases hji : j = i
    · subst hji; exact hy.wpOp hi hS ⟨fun _ => hS, H⟩
    · have := ready_mono hj hji
      rw [H.1] at this
      cases this
  | succ fuel ih =>
    intro listed a w hcl hfree hr hy hS H
    refine ⟨fun h => (by rw [h] at hr; cases hr), fun j hj => ?_⟩
    by_cases hji : j = i
    · subst hji; exact hy.wpOp hi hS ⟨fun _ => hS, H⟩
    · have h1 := H.2 j (ready_mono hj hji)
      obtain ⟨hjun, oj, hoj, hall⟩ := mem_ready.1 hj
      have hun : ¬ listed.getD i false = true := fun h1 => by
        have h0 := (mem_ready.1 hr).1
        rcases Nat.lt_or_ge i listed.size with h' | h'
        · simp [h'] at h0 h1; rw [h0] at h1; cases h1
        · simp [Array.getElem?_eq_none h'] at h1
      have hnot : ∀ e ∈ oj.after, Region.binds md e = true → e.on ≠ i := fun e he hb heq => by
        have h1 := hall e he hb
        rw [heq] at h1
        exact hun h1
      have hjL : j ≠ L := by
        rintro rfl
        exact hun (needs_spec hcl f j i oj hL hoj hall)
      have h2 := wpOp_putIf hoj (hfree j oj hoj hji hjun hnot) (fun cs b => hsel i oi cs b hi) (fun cs b => hsel j oj cs b hoj) hQ hy h1
      have hfree' : ∀ k ok, ops[k]? = some ok → k ≠ i → (listed.setIfInBounds j true).getD k true = false →
          (∀ e ∈ ok.after, Region.binds md e = true → e.on ≠ i) → oi.apart ops ok = true := fun k ok hk hki hun hno => by
        refine hfree k ok hk hki ?_ hno
        by_cases hjk : j = k
        · subst hjk; exact hjun
        · rw [getD_set_ne true hjk] at hun; exact hun
      refine wpOp_mono (fun a' w' h3 => ⟨h3.2.1, ih (listed.setIfInBounds j true) a' w' (closed_set hcl hj) hfree' (ready_mono hr (Ne.symm hji)) h3.1 (h3.2.1 hjL) ?_⟩) h2
      rw [Array.setIfInBounds_comm _ _ hji]
      exact h3.2.2
def closedB (md : Region.Mode) (ops : Array Oper) (listed : Array Bool) : Bool := (List.range ops.size).all fun j => !(listed.getD j false) || (match ops[j]? with
  | some o => o.after.all (fun e => !(Region.binds md e) || listed.getD e.on false)
  | none => true)
theorem closedB_spec {listed : Array Bool} (h : closedB md ops listed = true) : Closed md ops listed := by
  intro j oj hj hl e he hb
  have hlt : j < ops.size := (Array.getElem?_eq_some_iff.1 hj).1
  have := List.all_eq_true.1 h j (List.mem_range.2 hlt)
  rw [hl, hj] at this
  simp only [Bool.not_true, Bool.false_or] at this
  have h2 := (Array.all_eq_true_iff_forall_mem.1 this) e he
  rw [hb] at h2
  simpa using h2
theorem take2 (f : Nat) {i : Nat} {oi : Oper} {v : Value} {fuel : Nat} {listed : Array Bool} {a : Act} {w : World} (hi : ops[i]? = some oi)
    (hs : Region.noSelect ops = true) (hf : Region.free md ops listed i = true) (hr : (Region.ready md ops listed).contains i = true) (hw : needs md ops f L i = true) (hc : closedB md ops listed = true)
    (hQ : ∀ c a w, Q (.panic c) (a.put oi.dst v) w → Q (.panic c) a w) (hy : YieldsIf P ops S oi v a) (hS : S w)
    (h : wpAnyE P md ops Q S L fuel (listed.setIfInBounds i true) (a.put oi.dst v) w) : wpAnyE P md ops Q S L (fuel + 1) listed a w :=
  wpAnyE_first2 hi (Region.noSelect_spec hs) hQ hw fuel listed a w (closedB_spec hc) (Region.free_spec hi hf) (by simpa using hr) hy hS h
end
end Go.Proofs.YtpnigkjmofhmbabGreat.Last
end
section
namespace Go.Proofs.YtpnigkjmofhmbabGreat.StepA
open Go.RowKit Go.Maps
open Go.Proofs.YtpnigkjmofhmbabGreat.Base
set_option linter.unusedVariables false
set_option linter.unusedSimpArgs false
section
variable {ops : Array Oper} {o : Oper} {a : Act} {K : Act → World → Prop} {Q : Exit → Act → World → Prop} {E : Prop}
theorem step_app (hgd : o.guard = none) (s x : Operand) (t tx : TypeId) (ho : o.op = .call { callee := .builtin .append, args := #[s, x], argTypes := #[t, tx] }) (v u : Value) (W : World) (hs : a.eval s = v) (hx : a.eval x = u) {R : Value → World → Prop}
    (hr : ∃ v' w', (Builtin.append_ #[t, tx] o.type #[v, u]).run Tryz.prog W = .ok v' w' ∧ R v' w') (hK : ∀ v' w', R v' w' → K (a.put o.dst v') w') :
    if Region.wanted o (yielded ops a.tmps) = true then Oper.wp Tryz.prog o a W K Q else E := by
  have hw : Region.wanted o (yielded ops a.tmps) = true := by simp [Region.wanted, hgd]
  rw [if_pos hw]
  obtain ⟨v', w', h1, h2⟩ := hr
  unfold Oper.wp execOp
  simp only [ho, resolve, invoke, builtin, Sem.run_bind, Sem.run_pure, Result.andThen_ok, List.map_toArray, List.map_cons, List.map_nil, hs, hx, h1]
  exact hK _ _ h2
end
end Go.Proofs.YtpnigkjmofhmbabGreat.StepA
end
section
namespace Go.Proofs.YtpnigkjmofhmbabGreat.RDecM
open Go.RowKit Go.Maps
open Go.Proofs.YtpnigkjmofhmbabGreat.SetMath
open Go.Proofs.YtpnigkjmofhmbabGreat.BytesMath
open Go.Proofs.YtpnigkjmofhmbabGreat.ValueMath
open Go.Proofs.YtpnigkjmofhmbabGreat.ReadMath
open Go.Proofs.YtpnigkjmofhmbabGreat.Base
open Go.Proofs.YtpnigkjmofhmbabGreat.Vals
open Go.Proofs.YtpnigkjmofhmbabGreat.Rdr (ptr At)
open Go.Proofs.YtpnigkjmofhmbabGreat.RRd
open Go.Proofs.YtpnigkjmofhmbabGreat.Dec
open Go.Proofs.YtpnigkjmofhmbabGreat.Elem
set_option linter.unusedVariables false
set_option linter.unusedSimpArgs false
abbrev zC : Obj := .cells #[.int .i64 0, .string ⟨#[]⟩, .slice none 0 0, .slice none 0 0, .slice none 0 0] 38 (0, 0)
structure DI (w : World) (P : Nat) (S : Bs) (s : RS) (K T A1 A2 A3 : Value) (W : World) : Prop where
  b0 : W.heap[w.heap.size]? = some zC
  rr : RR (w.heap.size + 1) S s W
  bp : W.heap[P]? = some (.cells #[K, T, A1, A2, A3] 38 (0, 0))
  hp : w.heap.size + 2 ≤ P
  bel : Below w.heap.size w W
section
variable {w W W' : World} {P : Nat} {S : Bs} {s s' : RS} {K T A1 A2 A3 : Value}
theorem DI.lt (h : DI w P S s K T A1 A2 A3 W) : P + 1 ≤ W.heap.size := lt_of h.bp
theorem DI.low (h : DI w P S s K T A1 A2 A3 W) (b : Below (P + 1) W W') : DI w P S s K T A1 A2 A3 W' := by
  have hp := h.hp
  exact ⟨(b.block _ (by omega)).trans h.b0, rr_keep h.rr (b.block _ (by omega)), (b.block _ (by omega)).trans h.bp, hp, h.bel.trans (b.mono (by omega))⟩
theorem DI.drew (h : DI w P S s K T A1 A2 A3 W) : DI w P S s K T A1 A2 A3 W.drew := h.low ((Below.refl _ W).drew)
theorem DI.alloc (h : DI w P S s K T A1 A2 A3 W) (o : Obj) : DI w P S s K T A1 A2 A3 (W.alloc o) := h.low ((Below.refl _ W).alloc h.lt o)
theorem DI.call (h : DI w P S s K T A1 A2 A3 W) (r : RR (w.heap.size + 1) S s' W') (f : Fr (At (w.heap.size + 1)) W W') : DI w P S s' K T A1 A2 A3 W' := by
  have hp := h.hp
  have hl := h.lt
  exact ⟨(f.block _ (by omega) (by intro e; have : w.heap.size = w.heap.size + 1 := e; omega)).trans h.b0, r, (f.block _ (by omega) (by intro e; have : P = w.heap.size + 1 := e; omega)).trans h.bp, hp, h.bel.trans (f.below (by omega) (fun k e => by have : k = w.heap.size + 1 := e; omega))⟩
theorem DI.set1 (h : DI w P S s K T A1 A2 A3 W) (v : Value) : DI w P S s K v A1 A2 A3 (W.setCell ⟨P, 1, none⟩ v) := by
  have hp := h.hp
  exact ⟨(set_ne (by omega) _).trans h.b0, rr_keep h.rr (set_ne (by omega) _), set_at h.bp _, hp, bset h.bel (by omega) _⟩
theorem DI.set2 (h : DI w P S s K T A1 A2 A3 W) (v : Value) : DI w P S s K T v A2 A3 (W.setCell ⟨P, 2, none⟩ v) := by
  have hp := h.hp
  exact ⟨(set_ne (by omega) _).trans h.b0, rr_keep h.rr (set_ne (by omega) _), set_at h.bp _, hp, bset h.bel (by omega) _⟩
theorem DI.set3 (h : DI w P S s K T A1 A2 A3 W) (v : Value) : DI w P S s K T A1 v A3 (W.setCell ⟨P, 3, none⟩ v) := by
  have hp := h.hp
  exact ⟨(set_ne (by omega) _).trans h.b0, rr_keep h.rr (set_ne (by omega) _), set_at h.bp _, hp, bset h.bel (by omega) _⟩
theorem DI.set4 (h : DI w P S s K T A1 A2 A3 W) (v : Value) : DI w P S s K T A1 A2 v (W.setCell ⟨P, 4, none⟩ v) := by
  have hp := h.hp
  exact ⟨(set_ne (by omega) _).trans h.b0, rr_keep h.rr (set_ne (by omega) _), set_at h.bp _, hp, bset h.bel (by omega) _⟩
end
/- the loop -/
structure Jn {α : Type} (p : Bs → Option (α × Bs)) (n : Nat) (r2 : Bs) (k : Nat) (xs : List α) (s : RS) : Prop where
  le : k ≤ n
  len : xs.length = k
  b : s.1.length ≤ 140737488355328
  ok : s.2 = false → many p n r2 = (many p (n - k) s.1).bind fun t => some (xs ++ t.1, t.2)
  no : s.2 = true → many p n r2 = none
theorem Jn.start {α : Type} (p : Bs → Option (α × Bs)) (n : Nat) (r2 : Bs) (h : r2.length ≤ 140737488355328) : Jn p n r2 0 [] (r2, false) :=
  ⟨Nat.zero_le _, rfl, h, fun _ => by rw [Nat.sub_zero]; cases many p n r2 with | none => rfl | some t => rfl, fun h => by cases h⟩
theorem Jn.step {α : Type} {p : Bs → Option (α × Bs)} {g : RS → α × RS} (hs : ∀ r x r', p r = some (x, r') → g (r, false) = (x, r', false)) (hn : ∀ r, p r = none → ∃ x r', g (r, false) = (x, r', true))
    (hle : ∀ s, (g s).2.1.length ≤ s.1.length) {n : Nat} {r2 : Bs} {k : Nat} {xs : List α} {rk : Bs} (h : Jn p n r2 k xs (rk, false)) (hk : k < n) : Jn p n r2 (k + 1) (xs ++ [(g (rk, false)).1]) (g (rk, false)).2 := by
  have hok := h.ok rfl
  rw [show n - k = (n - (k + 1)) + 1 by omega] at hok
  refine ⟨hk, by rw [List.length_append, h.len]; rfl, Nat.le_trans (hle _) h.b, ?_, ?_⟩
  · intro hf
    cases hp : p rk with
    | none => obtain ⟨x, r', e⟩ := hn rk hp; rw [e] at hf; cases hf
    | some q =>
      obtain ⟨x, r'⟩ := q
      have := many_step hok hp
      rw [hs rk x r' hp]
      exact this
  · intro hf
    cases hp : p rk with
    | none => exact many_stop hok hp
    | some q =>
      obtain ⟨x, r'⟩ := q
      rw [hs rk x r' hp] at hf
      cases hf
theorem Jn.done {α : Type} {p : Bs → Option (α × Bs)} {n : Nat} {r2 : Bs} {xs : List α} {rk : Bs} (h : Jn p n r2 n xs (rk, false)) : many p n r2 = some (xs, rk) := by
  have := h.ok rfl
  rw [Nat.sub_self] at this
  exact many_done this
theorem fd_le (s : RS) : (fdS s).2.1.length ≤ s.1.length := Nat.le_trans (tx_le (txS s).2).1 (tx_le s).1
theorem sc_le (s : RS) : (scS s).2.1.length ≤ s.1.length := Nat.le_trans (tx_le (nbS 8 s).2).1 (nb_le 8 s)
theorem JnT {n : Nat} {r2 : Bs} {k : Nat} {xs : List Bs} {rk : Bs} (h : Jn rdT n r2 k xs (rk, false)) (hk : k < n) : Jn rdT n r2 (k + 1) (xs ++ [(txS (rk, false)).1]) (txS (rk, false)).2 := h.step (g := txS) (fun _ _ _ h => tx_some h) (fun r h => by obtain ⟨r', e⟩ := tx_none h; exact ⟨_, r', e⟩) (fun s => (tx_le s).1) hk
theorem JnF {n : Nat} {r2 : Bs} {k : Nat} {xs : List (Bs × Bs)} {rk : Bs} (h : Jn rdF n r2 k xs (rk, false)) (hk : k < n) : Jn rdF n r2 (k + 1) (xs ++ [(fdS (rk, false)).1]) (fdS (rk, false)).2 := h.step (g := fdS) (fun _ _ _ h => fd_some h) (fun r h => fd_none h) fd_le hk
theorem JnE {n : Nat} {r2 : Bs} {k : Nat} {xs : List (Bs × Int)} {rk : Bs} (h : Jn rdE n r2 k xs (rk, false)) (hk : k < n) : Jn rdE n r2 (k + 1) (xs ++ [(scS (rk, false)).1]) (scS (rk, false)).2 := h.step (g := scS) (fun _ _ _ h => sc_some h) (fun r h => sc_none h) sc_le hk
theorem dec_none {S : Bs} (h : valS S = none) : decV S = (zV, 0, 132) := by unfold decV decS; rw [h]; rfl
theorem dec_some {S r' : Bs} {x : Vl} (h : valS S = some (x, r')) : decV S = if chk x = 0 then (x, S.length - r'.length, 0) else (zV, 0, 132) := by
  unfold decV decS
  rw [h]
  simp only [Option.bind_some]
  by_cases h0 : chk x = 0
  · rw [if_pos h0, if_pos h0]
  · rw [if_neg h0, if_neg h0]
end Go.Proofs.YtpnigkjmofhmbabGreat.RDecM
end
