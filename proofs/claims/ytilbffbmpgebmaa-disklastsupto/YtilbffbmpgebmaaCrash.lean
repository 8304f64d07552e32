/- Crash: what it leans on. -/
import Derived.Test.YtilbffbmpgebmaaRising
namespace Go.Proofs.Ytilbffbmpgebmaa.Crash
open Go.RowKit Go.Maps Go.Sort
open Go.Proofs.Ytilbffbmpgebmaa.DiskMath
open Go.Proofs.Ytilbffbmpgebmaa.Base
open Go.Proofs.Ytilbffbmpgebmaa.Small
open Go.Proofs.Ytilbffbmpgebmaa.Find
open Go.Proofs.Ytilbffbmpgebmaa.File
open Go.Proofs.Ytilbffbmpgebmaa.File2
open Go.Proofs.Ytilbffbmpgebmaa.Append
open Go.Proofs.Ytilbffbmpgebmaa.Names
open Go.Proofs.Ytilbffbmpgebmaa.Settle
open Go.Proofs.Ytilbffbmpgebmaa.Rising
set_option linter.unusedVariables false

theorem before_le : ∀ a b : Bs, bytesBefore a b = true → a ≤ b
  | [], b, _ => List.nil_le b
  | x :: r, [], h => by cases h
  | x :: r, y :: s, h => by
    unfold bytesBefore at h
    rw [List.cons_le_cons_iff]
    by_cases hx : x < y
    · exact Or.inl hx
    · simp [hx] at h
      exact Or.inr ⟨h.1, before_le r s h.2⟩
theorem sorted_keys (pos : Nat → Nat) : ∀ l : NL, DataW.rising (l.map fun p => ((.string p.1, .lit (.int .i64 (pos p.2))) : Lit × DataW Unit)) = true → (keys l).Pairwise (fun a b => a ≤ b)
  | [], _ => List.Pairwise.nil
  | [a], _ => List.pairwise_singleton _ _
  | a :: b :: r, h => by
    have h' : (bytesBefore a.1 b.1 && DataW.rising (((b :: r) : NL).map fun p => ((.string p.1, .lit (.int .i64 (pos p.2))) : Lit × DataW Unit))) = true := h
    rw [Bool.and_eq_true] at h'
    have ih := sorted_keys pos (b :: r) h'.2
    have hab := before_le _ _ h'.1
    show (a.1 :: keys (b :: r)).Pairwise _
    refine List.pairwise_cons.2 ⟨fun x hx => ?_, ih⟩
    rcases List.mem_cons.1 hx with e | hx'
    · rw [e]; exact hab
    · exact List.le_trans hab ((List.pairwise_cons.1 ih).1 x hx')
theorem owns_rising {w : World} {b n : Nat} {pos : Nat → Nat} {l : NL} (h : w.ownsMap Try.prog 9 RP b n (toD pos l)) : (keys l).Pairwise (fun a b => a ≤ b) := by
  obtain ⟨es, c, hb, F, hs, hD⟩ := h
  have := Maps.fit_rising law9 F
  have e : (es.toList.map (WideElems.rg Try.prog 9 RP)).foldr DataW.insert [] = l.map fun p => ((.string p.1, .lit (.int .i64 (pos p.2))) : Lit × DataW Unit) := by
    have : DataW.map _ = DataW.map _ := hD
    injection this with this
    exact this.symm
  rw [e] at this
  exact sorted_keys pos l this
theorem sort_keys {l : List Bs} (h : l.Pairwise (fun a b => a ≤ b)) : l.mergeSort leB = l := by
  refine List.mergeSort_of_pairwise (h.imp ?_)
  intro a b hab
  simpa [leB] using hab
/- no key twice -/
theorem owns_apart {w : World} {b n : Nat} {pos : Nat → Nat} {l : NL} (h : w.ownsMap Try.prog 9 RP b n (toD pos l)) : l.Pairwise (fun p q => p.1 ≠ q.1) := by
  obtain ⟨es, e, hp⟩ := h.tidy law9
  have e' : es = l.map fun p => ((.string p.1, .lit (.int .i64 (pos p.2))) : Lit × DataW Unit) := by
    have : DataW.map _ = DataW.map _ := e
    injection this with this
    exact this.symm
  rw [e', List.pairwise_map] at hp
  exact hp.imp fun hne e => hne (by rw [e])
theorem lkp_at : ∀ {l : NL}, l.Pairwise (fun p q => p.1 ≠ q.1) → ∀ p ∈ l, lkp l p.1 = some p.2
  | [], _, p, hp => by cases hp
  | a :: r, h, p, hp => by
    unfold lkp
    rw [List.find?_cons]
    rcases List.mem_cons.1 hp with e | hp'
    · rw [e]; simp
    · have hne := (List.pairwise_cons.1 h).1 p hp'
      rw [show (a.1 == p.1) = false from by simpa using hne]
      exact lkp_at (List.pairwise_cons.1 h).2 p hp'
theorem rising_call (b m : Nat) (pos : Nat → Nat) (l : NL) (w : World) (hown : w.ownsMap Try.prog 9 RP b l.length (toD pos l)) (hl : NOk m l) (hmax : l.length < 1099511627776) :
    Calls Try.prog 45 #[.map (some b)] w fun e w' => ∃ (g cap : Nat), e = .returned (.slice (some ⟨g, 0, none⟩) l.length cap) ∧ w'.ownsRow w.heap.size 9 1 (.slice (some ⟨g, 0, none⟩) l.length cap) l.length ((keys l).map encStr) ∧ Below w.heap.size w w' := by
  refine (rising_any b m pos l w hown hl hmax).mono ?_
  rintro e w' ⟨g, cap, ss, rfl, hp, hr, hb⟩
  have e1 : ss.mergeSort (fun x y => decide (x ≤ y)) = keys l := by
    have h2 : ss.mergeSort leB = (strKeys (toD pos l)).mergeSort leB := mergeSort_of_perm hp
    rw [keys_D, sort_keys (owns_rising hown)] at h2
    exact h2
  have e2 : ss.length = l.length := by rw [hp.length_eq, keys_D]; unfold keys; simp
  rw [e1, e2] at hr
  rw [e2]
  exact ⟨g, cap, rfl, hr, hb⟩
/- the numbers of a crash -/
def IntSl (W : World) (v : Value) (l : List Int) : Prop := ∃ a c, v = .slice a l.length c ∧ (l = [] ∨ ∃ g o, a = some ⟨g, o, none⟩ ∧ ∀ j (h : j < l.length), W.cell? ⟨g, o + j, none⟩ = some (.int .i64 l[j]))
set_option maxHeartbeats 1000000 in
set_option maxRecDepth 100000 in
theorem outliving_call (v : Value) (l : List Int) (i : Nat) (w : World) (h : IntSl w v l) (hi : i < 1099511627776) (hl : l.length ≤ 9223372036854775807) : Calls Try.prog 47 #[v, .int .i64 (i : Int)] w fun e w' => e = .returned (.int .i64 (outl l i)) ∧ w' = w := by
  obtain ⟨a, c, rfl, h⟩ := h
  by_cases h0 : l = []
  · subst h0
    go_enter Try.func47, Try.ntmps47
    go_wp2
    go_ret
    exact ⟨rfl, rfl⟩
  · obtain ⟨g, o, rfl, hc⟩ := h.resolve_left h0
    have hlen : 0 < l.length := List.length_pos_iff.2 h0
    have hm : i % l.length < l.length := Nat.mod_lt _ hlen
    have e1 : ((i : Int)).tmod (l.length : Int) = ((i % l.length : Nat) : Int) := by rw [Int.tmod_eq_emod_of_nonneg (by omega)]; rfl
    have c1 := hc (i % l.length) hm
    have e2 : outl l i = l[i % l.length]'hm := by
      unfold outl
      rw [if_neg (by omega)]
      simp [List.getD, hm]
    rw [e2]
    have g1 : ((l.length : Int) == 0) = false := by rw [beq_eq_false_iff_ne]; omega
    obtain ⟨z, hz⟩ : ∃ z, z = l[i % l.length]'hm := ⟨_, rfl⟩
    rw [← hz] at c1 ⊢
    obtain ⟨j, hj⟩ : ∃ j, j = i % l.length := ⟨_, rfl⟩
    rw [← hj] at e1 c1 hm
    clear hc h hz e2 h0 hj
    go_enter Try.func47, Try.ntmps47
    go_wp2
    go_ret
    exact ⟨rfl, rfl⟩
/- one more file -/
theorem crash_snoc (bytes : List Int) : ∀ (l : NL) (i : Nat) (fs : List (Bs × Nat)) (p : Bs × Nat), crashFiles bytes i (l ++ [p]) fs = (crashFiles bytes i l fs).modify p.2 (crashF (outl bytes (i + l.length)))
  | [], i, fs, p => rfl
  | q :: r, i, fs, p => by
    show crashFiles bytes (i + 1) (r ++ [p]) _ = _
    rw [crash_snoc bytes r (i + 1) _ p]
    have : i + 1 + r.length = i + (q :: r).length := by simp; omega
    rw [this]
    rfl
theorem crash_len (bytes : List Int) : ∀ (l : NL) (i : Nat) (fs : List (Bs × Nat)), (crashFiles bytes i l fs).length = fs.length
  | [], _, _ => rfl
  | q :: r, i, fs => by
    show (crashFiles bytes (i + 1) r _).length = _
    rw [crash_len bytes r]
    simp
/- the names are the lasting ones, in a map of their own -/
theorem DK.cloned {base b B : Nat} {y : Lay} {d : Dk} {w : World} (h : DK base b y d w) (hB : w.ownsMap Try.prog 9 RP B d.last.length (toD y.pos d.last)) (hb : base ≤ B) (hne : B ≠ y.bl) :
    DK base b { y with bn := B } { d with names := d.last } (w.setCell ⟨b, 0, none⟩ (.map (some B))) := by
  have hk : ∀ k, kd w k ≠ 71 → (w.setCell ⟨b, 0, none⟩ (.map (some B))).heap[k]? = w.heap[k]? := fun k h71 => set_ne (fun e => h71 (by rw [e, kd_cells h.disk])) _
  have ok := h.ok
  refine ⟨set_at h.disk _, h.bb, hb, h.lb, hne, map_later hB (hk _ (by rw [owns_kd hB]; decide)), map_later h.ls (hk _ (by rw [owns_kd h.ls]; decide)), row_later h.op (fun g hg => hk g (by rw [(row_kd h.op hg).1]; decide)), plan_later h.pl (fun k _ e => hk k (by rw [e]; decide)), fun i x hx => ?_, h.inj, h.apart, ⟨ok.last, ok.last, ok.opens, by have := ok.llen; show d.last.length ≤ d.steps; omega, ok.llen, ok.plan⟩, by rw [size_set]; exact h.hb⟩
  have q := h.fl i x hx
  exact file_later q (hk _ (by rw [kd_cells q.blk]; decide)) (fun g hg => hk g (by rw [(row_kd q.row hg).1]; decide))
end Go.Proofs.Ytilbffbmpgebmaa.Crash
