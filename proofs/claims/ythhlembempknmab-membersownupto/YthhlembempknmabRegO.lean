/- The region of MembersOwn: seven lists, each in a row of its own, in whatever order what it needs comes up. -/
import Derived.Test.YthhlembempknmabAnyR
namespace Go.Proofs.Ythhlembempknmab.RegO
open Go Go.RowKit Go.Sort
open Go.Proofs.Ythhlembempknmab.SetMath
open Go.Proofs.Ythhlembempknmab.Base
open Go.Proofs.Ythhlembempknmab.Sets
open Go.Proofs.Ythhlembempknmab.AnyR
set_option linter.unusedVariables false
set_option linter.unusedSimpArgs false
def slots : List Nat := [26, 30, 31, 35, 36, 40, 41, 45, 47, 51, 52, 6]
def puts (A : Act) (f : Nat → Value) : Act := { A with tmps := A.tmps.mapIdx fun i v => if i ∈ slots then f i else v }
theorem eval_in {A : Act} {f : Nat → Value} {s : Nat} (hs : s ∈ slots) (hl : s < A.tmps.size) : (puts A f).eval (.tmp s) = f s := by
  unfold puts Act.eval
  simp [hl, hs]
theorem eval_out {A : Act} {f : Nat → Value} {s : Nat} (hs : s ∉ slots) : (puts A f).eval (.tmp s) = A.eval (.tmp s) := by
  unfold puts Act.eval
  simp [hs]
def upd (f : Nat → Value) (s : Nat) (v : Value) : Nat → Value := fun t => if t = s then v else f t
theorem upd_same (f : Nat → Value) (s : Nat) (v : Value) : upd f s v s = v := by unfold upd; rw [if_pos rfl]
theorem upd_ne {f : Nat → Value} {s t : Nat} {v : Value} (h : t ≠ s) : upd f s v t = f t := by unfold upd; rw [if_neg h]
theorem put_puts {A : Act} {f : Nat → Value} {s : Nat} {v : Value} (hs : s ∈ slots) : (puts A f).put (some s) v = puts A (upd f s v) := by
  unfold puts Act.put
  simp only
  congr 1
  apply Array.ext_getElem?
  intro i
  by_cases e : i = s
  · subst e
    rcases Nat.lt_or_ge i A.tmps.size with q | q
    · simp [q, hs, upd_same]
    · simp [Array.getElem?_eq_none q]
      exact q
  · rw [Array.getElem?_setIfInBounds_ne (Ne.symm e)]
    simp only [Array.getElem?_mapIdx]
    congr 1
    funext v'
    by_cases q : i ∈ slots
    · rw [if_pos q, if_pos q, upd_ne e]
    · rw [if_neg q, if_neg q]
theorem puts_self (A : Act) : puts A (fun s => A.tmps.getD s undef) = A := by
  unfold puts
  cases A with
  | mk t d =>
    simp only
    congr 1
    apply Array.ext_getElem?
    intro i
    rcases Nat.lt_or_ge i t.size with q | q
    · simp [q]
    · simp [Array.getElem?_eq_none q]
def Dj (v v' : Value) : Prop := ∀ g n c g' n' c', v = .slice (some ⟨g, 0, none⟩) n c → v' = .slice (some ⟨g', 0, none⟩) n' c' → g ≠ g'
def Row (Sub : List El → Prop) (B : Nat) (w : World) (v : Value) : Prop := ∃ lst, NR B w v lst ∧ Sub lst
def cs : List (Nat × Nat) := [(3, 26), (8, 31), (13, 36), (18, 41), (22, 45), (24, 47), (28, 51)]
def bsl : List (Nat × Nat) := [(7, 30), (12, 35), (17, 40)]
def on (l : Array Bool) (k : Nat) : Bool := l.getD k false
theorem on_set {l : Array Bool} {i k : Nat} (hi : i < l.size) : on (l.setIfInBounds i true) k = (decide (k = i) || on l k) := by
  unfold on
  by_cases e : k = i
  · subst e; simp [hi]
  · simp [Ne.symm e, e, Array.getElem?_setIfInBounds_ne]
structure Iv (Sub : List El → Prop) (w2 : World) (hdr : Value) (A0 : Act) (l : Array Bool) (a : Act) (w : World) : Prop where
  size : l.size = 31
  pure : ∀ k ∈ [0, 1, 2, 4, 5, 6, 9, 10, 11, 14, 15, 16, 19, 20, 21, 23, 25, 26, 27], on l k = true
  onw : On w2 w
  ex : ∃ f, a = puts A0 f ∧ (∀ p ∈ cs, on l p.1 = true → Row Sub w2.heap.size w (f p.2)) ∧ (∀ p ∈ cs, ∀ q ∈ cs, p ≠ q → on l p.1 = true → on l q.1 = true → Dj (f p.2) (f q.2)) ∧
    (∀ p ∈ bsl, on l p.1 = true → ∃ q, f p.2 = .slice (some ⟨q, 0, none⟩) 1 1 ∧ w.heap[q]? = some (.cells #[hdr] 22 (0, 0))) ∧
    (on l 29 = true → (∀ p ∈ cs, on l p.1 = true) ∧ ∃ q, f 52 = .slice (some ⟨q, 0, none⟩) 7 7 ∧ w2.heap.size ≤ q ∧ w.heap[q]? = some (.cells #[f 26, f 31, f 36, f 41, f 45, f 47, f 51] 22 (0, 0))) ∧
    (on l 30 = true → on l 29 = true ∧ f 6 = f 52)
theorem cs_slot : ∀ p ∈ cs, p.2 ∈ slots ∧ p.1 < 31 ∧ p.1 ≠ 29 ∧ p.1 ≠ 30 ∧ p.2 ≠ 52 ∧ p.2 ≠ 6 := by decide
theorem bs_slot : ∀ p ∈ bsl, p.2 ∈ slots ∧ p.1 < 31 ∧ p.1 ≠ 29 ∧ p.1 ≠ 30 ∧ p.2 ≠ 52 ∧ p.2 ≠ 6 := by decide
theorem bs_out : ∀ p ∈ bsl, ∀ t ∈ ([26, 31, 36, 41, 45, 47, 51, 52, 6] : List Nat), t ≠ p.2 := by decide
theorem cs_bs : ∀ p ∈ cs, ∀ q ∈ bsl, p.1 ≠ q.1 ∧ p.2 ≠ q.2 := by decide
theorem cs_cs : ∀ p ∈ cs, ∀ q ∈ cs, p ≠ q → p.1 ≠ q.1 ∧ p.2 ≠ q.2 := by decide
theorem bs_bs : ∀ p ∈ bsl, ∀ q ∈ bsl, p ≠ q → p.1 ≠ q.1 ∧ p.2 ≠ q.2 := by decide
section
variable {Sub : List El → Prop} {w2 : World} {hdr : Value} {A0 : Act} {l : Array Bool} {a : Act} {w w' : World}
theorem row_below {v : Value} (h : Row Sub w2.heap.size w v) (b : Below w.heap.size w w') : Row Sub w2.heap.size w' v := by
  obtain ⟨lst, h1, h2⟩ := h
  exact ⟨lst, h1.below b, h2⟩
theorem dj_new {B : Nat} {v v' : Value} {x : List El} (h : Row Sub B w v) (h' : NR w.heap.size w' v' x) : Dj v v' := by
  intro g n c g' n' c' e e'
  obtain ⟨lst, h1, _⟩ := h
  rcases h1 with ⟨e1, _⟩ | ⟨g1, c1, cur, e1, _, hh, _⟩
  · rw [e1] at e; cases e
  · rw [e1] at e
    cases e
    have := lt_of hh
    rcases h' with ⟨e2, _⟩ | ⟨g2, c2, cur2, e2, hB, _⟩
    · rw [e2] at e'; cases e'
    · rw [e2] at e'
      cases e'
      omega
theorem dj_symm {v v' : Value} (h : Dj v v') : Dj v' v := fun g n c g' n' c' e e' q => h g' n' c' g n c e' e q.symm
theorem Iv.call (h : Iv Sub w2 hdr A0 l a w) {p : Nat × Nat} (hp : p ∈ cs) (hu : l.getD p.1 true = false) {r : Value} {x : List El} (hn : NR w.heap.size w' r x) (hx : Sub x) (b : Below w.heap.size w w') : Iv Sub w2 hdr A0 (l.setIfInBounds p.1 true) (a.put (some p.2) r) w' := by
  obtain ⟨f, rfl, h1, h2, h3, h4, h5⟩ := h.ex
  obtain ⟨q1, q2, q3, q4, q5, q6⟩ := cs_slot p hp
  have hsz : p.1 < l.size := by rw [h.size]; exact q2
  have hoff : on l p.1 = false := by
    unfold on
    simpa [hsz] using hu
  have h29 : on l 29 = true → False := fun e => by
    have := (h4 e).1 p hp
    rw [hoff] at this; cases this
  refine ⟨by simpa using h.size, fun k hk => ?_, h.onw.go b, upd f p.2 r, put_puts q1, fun q hq e => ?_, fun q hq t ht hne e1 e2 => ?_, fun q hq e => ?_, fun e => ?_, fun e => ?_⟩
  · rw [on_set hsz, h.pure k hk]; simp
  · by_cases c : q = p
    · subst c; rw [upd_same]; exact ⟨x, hn.mono h.onw.bl.size, hx⟩
    · obtain ⟨d1, d2⟩ := cs_cs q hq p hp c
      rw [on_set hsz, decide_eq_false d1, Bool.false_or] at e
      rw [upd_ne d2]
      exact row_below (h1 q hq e) b
  · by_cases c : q = p
    · subst c
      obtain ⟨d1, d2⟩ := cs_cs t ht q hp (Ne.symm hne)
      rw [on_set hsz, decide_eq_false d1, Bool.false_or] at e2
      rw [upd_same, upd_ne d2]
      exact dj_symm (dj_new (h1 t ht e2) hn)
    · obtain ⟨d1, d2⟩ := cs_cs q hq p hp c
      rw [on_set hsz, decide_eq_false d1, Bool.false_or] at e1
      by_cases c' : t = p
      · subst c'
        rw [upd_same, upd_ne d2]
        exact dj_new (h1 q hq e1) hn
      · obtain ⟨d3, d4⟩ := cs_cs t ht p hp c'
        rw [on_set hsz, decide_eq_false d3, Bool.false_or] at e2
        rw [upd_ne d2, upd_ne d4]
        exact h2 q hq t ht hne e1 e2
  · obtain ⟨d1, d2⟩ := cs_bs p hp q hq
    rw [on_set hsz, decide_eq_false (Ne.symm d1), Bool.false_or] at e
    obtain ⟨z, z1, z2⟩ := h3 q hq e
    rw [upd_ne (Ne.symm d2)]
    exact ⟨z, z1, (b.block z (lt_of z2)).trans z2⟩
  · rw [on_set hsz, decide_eq_false (Ne.symm q3), Bool.false_or] at e
    exact absurd e (fun e => h29 e)
  · rw [on_set hsz, decide_eq_false (Ne.symm q4), Bool.false_or] at e
    exact absurd (h5 e).1 (fun e => h29 e)
theorem Iv.build (h : Iv Sub w2 hdr A0 l a w) {p : Nat × Nat} (hp : p ∈ bsl) (hu : l.getD p.1 true = false) : Iv Sub w2 hdr A0 (l.setIfInBounds p.1 true) (a.put (some p.2) (.slice (some ⟨w.heap.size, 0, none⟩) 1 1)) (w.alloc (.cells #[hdr] 22)) := by
  obtain ⟨f, rfl, h1, h2, h3, h4, h5⟩ := h.ex
  obtain ⟨q1, q2, q3, q4, q5, q6⟩ := bs_slot p hp
  have hsz : p.1 < l.size := by rw [h.size]; exact q2
  have b := (Below.refl w.heap.size w).alloc (Nat.le_refl _) (.cells #[hdr] 22)
  have hs := bs_out p hp
  refine ⟨by simpa using h.size, fun k hk => ?_, h.onw.go b, upd f p.2 _, put_puts q1, fun q hq e => ?_, fun q hq t ht hne e1 e2 => ?_, fun q hq e => ?_, fun e => ?_, fun e => ?_⟩
  · rw [on_set hsz, h.pure k hk]; simp
  · obtain ⟨d1, d2⟩ := cs_bs q hq p hp
    rw [on_set hsz, decide_eq_false d1, Bool.false_or] at e
    rw [upd_ne d2]
    exact row_below (h1 q hq e) b
  · obtain ⟨d1, d2⟩ := cs_bs q hq p hp
    obtain ⟨d3, d4⟩ := cs_bs t ht p hp
    rw [on_set hsz, decide_eq_false d1, Bool.false_or] at e1
    rw [on_set hsz, decide_eq_false d3, Bool.false_or] at e2
    rw [upd_ne d2, upd_ne d4]
    exact h2 q hq t ht hne e1 e2
  · by_cases c : q = p
    · subst c
      rw [upd_same]
      exact ⟨_, rfl, heap_alloc_new w _⟩
    · obtain ⟨d1, d2⟩ := bs_bs q hq p hp c
      rw [on_set hsz, decide_eq_false d1, Bool.false_or] at e
      obtain ⟨z, z1, z2⟩ := h3 q hq e
      rw [upd_ne d2]
      exact ⟨z, z1, (b.block z (lt_of z2)).trans z2⟩
  · rw [on_set hsz, decide_eq_false (Ne.symm q3), Bool.false_or] at e
    obtain ⟨k1, z, z1, z2, z3⟩ := h4 e
    refine ⟨fun q hq => by rw [on_set hsz, k1 q hq]; simp, z, by rw [upd_ne (hs 52 (by simp))]; exact z1, z2, ?_⟩
    rw [upd_ne (hs 26 (by simp)), upd_ne (hs 31 (by simp)), upd_ne (hs 36 (by simp)), upd_ne (hs 41 (by simp)), upd_ne (hs 45 (by simp)), upd_ne (hs 47 (by simp)), upd_ne (hs 51 (by simp))]
    exact (b.block z (lt_of z3)).trans z3
  · rw [on_set hsz, decide_eq_false (Ne.symm q4), Bool.false_or] at e
    obtain ⟨z1, z2⟩ := h5 e
    refine ⟨by rw [on_set hsz, z1]; simp, ?_⟩
    rw [upd_ne (hs 6 (by simp)), upd_ne (hs 52 (by simp))]
    exact z2
theorem Iv.last (h : Iv Sub w2 hdr A0 l a w) (hu : l.getD 29 true = false) (hall : ∀ p ∈ cs, on l p.1 = true) {f : Nat → Value} (hf : a = puts A0 f) (hA : A0.tmps.size = 153) : Iv Sub w2 hdr A0 (l.setIfInBounds 29 true) (a.put (some 52) (.slice (some ⟨w.heap.size, 0, none⟩) 7 7)) (w.alloc (.cells #[f 26, f 31, f 36, f 41, f 45, f 47, f 51] 22)) := by
  obtain ⟨f', e', h1, h2, h3, h4, h5⟩ := h.ex
  have hff : ∀ s ∈ slots, f' s = f s := fun s hs => by
    have hl : s < A0.tmps.size := by
      rw [hA]
      revert hs; revert s
      decide
    rw [← eval_in (f := f') hs hl, ← eval_in (f := f) hs hl, ← e', hf]
  have hsz : 29 < l.size := by rw [h.size]; decide
  have hoff : on l 29 = false := by
    unfold on
    simpa [hsz] using hu
  have b := (Below.refl w.heap.size w).alloc (Nat.le_refl _) (.cells #[f 26, f 31, f 36, f 41, f 45, f 47, f 51] 22)
  have hs : ∀ p ∈ cs, p.2 ≠ 52 := fun p hp => (cs_slot p hp).2.2.2.2.1
  have hsb : ∀ p ∈ bsl, p.2 ≠ 52 := fun p hp => (bs_slot p hp).2.2.2.2.1
  subst hf
  refine ⟨by simpa using h.size, fun k hk => ?_, h.onw.go b, upd f 52 _, put_puts (by decide), fun q hq e => ?_, fun q hq t ht hne e1 e2 => ?_, fun q hq e => ?_, fun e => ?_, fun e => ?_⟩
  · rw [on_set hsz, h.pure k hk]; simp
  · rw [upd_ne (hs q hq), ← hff _ (cs_slot q hq).1]
    exact row_below (h1 q hq (hall q hq)) b
  · rw [upd_ne (hs q hq), upd_ne (hs t ht), ← hff _ (cs_slot q hq).1, ← hff _ (cs_slot t ht).1]
    exact h2 q hq t ht hne (hall q hq) (hall t ht)
  · rw [on_set hsz, decide_eq_false (bs_slot q hq).2.2.1, Bool.false_or] at e
    obtain ⟨z, z1, z2⟩ := h3 q hq e
    rw [upd_ne (hsb q hq), ← hff _ (bs_slot q hq).1]
    exact ⟨z, z1, (b.block z (lt_of z2)).trans z2⟩
  · refine ⟨fun q hq => by rw [on_set hsz, hall q hq]; simp, w.heap.size, upd_same _ _ _, h.onw.bl.size, ?_⟩
    rw [upd_ne (by decide), upd_ne (by decide), upd_ne (by decide), upd_ne (by decide), upd_ne (by decide), upd_ne (by decide), upd_ne (by decide)]
    exact heap_alloc_new w _
  · rw [on_set hsz, decide_eq_false (by decide), Bool.false_or] at e
    have := (h5 e).1
    rw [hoff] at this
    cases this
theorem Iv.give (h : Iv Sub w2 hdr A0 l a w) (h29 : on l 29 = true) {f : Nat → Value} (hf : a = puts A0 f) (hA : A0.tmps.size = 153) : Iv Sub w2 hdr A0 (l.setIfInBounds 30 true) (a.put (some 6) (f 52)) w := by
  obtain ⟨f', e', h1, h2, h3, h4, h5⟩ := h.ex
  have hff : ∀ s ∈ slots, f' s = f s := fun s hs => by
    have hl : s < A0.tmps.size := by
      rw [hA]
      revert hs; revert s
      decide
    rw [← eval_in (f := f') hs hl, ← eval_in (f := f) hs hl, ← e', hf]
  have hsz : 30 < l.size := by rw [h.size]; decide
  have hs : ∀ p ∈ cs, p.2 ≠ 6 := fun p hp => (cs_slot p hp).2.2.2.2.2
  have hsb : ∀ p ∈ bsl, p.2 ≠ 6 := fun p hp => (bs_slot p hp).2.2.2.2.2
  subst hf
  obtain ⟨hall, z, z1, z2, z3⟩ := h4 h29
  refine ⟨by simpa using h.size, fun k hk => ?_, h.onw, upd f 6 _, put_puts (by decide), fun q hq e => ?_, fun q hq t ht hne e1 e2 => ?_, fun q hq e => ?_, fun e => ?_, fun e => ?_⟩
  · rw [on_set hsz, h.pure k hk]; simp
  · rw [upd_ne (hs q hq), ← hff _ (cs_slot q hq).1]
    exact h1 q hq (hall q hq)
  · rw [upd_ne (hs q hq), upd_ne (hs t ht), ← hff _ (cs_slot q hq).1, ← hff _ (cs_slot t ht).1]
    exact h2 q hq t ht hne (hall q hq) (hall t ht)
  · rw [on_set hsz, decide_eq_false (bs_slot q hq).2.2.2.1, Bool.false_or] at e
    obtain ⟨z, z1, z2⟩ := h3 q hq e
    rw [upd_ne (hsb q hq), ← hff _ (bs_slot q hq).1]
    exact ⟨z, z1, z2⟩
  · refine ⟨fun q hq => by rw [on_set hsz, hall q hq]; simp, z, by rw [upd_ne (by decide), ← hff _ (by decide)]; exact z1, z2, ?_⟩
    rw [upd_ne (by decide), upd_ne (by decide), upd_ne (by decide), upd_ne (by decide), upd_ne (by decide), upd_ne (by decide), upd_ne (by decide)]
    rw [← hff 26 (by decide), ← hff 31 (by decide), ← hff 36 (by decide), ← hff 41 (by decide), ← hff 45 (by decide), ← hff 47 (by decide), ← hff 51 (by decide)]
    exact z3
  · refine ⟨by rw [on_set hsz, h29]; simp, ?_⟩
    rw [upd_same, upd_ne (by decide)]
/-- what a call that gives a list tells -/
def Gives (Sub : List El → Prop) (w : World) (e : Ending) (w' : World) : Prop := ∃ r x, e = .returned r ∧ NR w.heap.size w' r x ∧ Sub x ∧ Below w.heap.size w w'
/-- behind the region -/
structure Done (Sub : List El → Prop) (w2 : World) (f : Nat → Value) (w : World) : Prop where
  onw : On w2 w
  rows : ∀ p ∈ cs, Row Sub w2.heap.size w (f p.2)
  apart : ∀ p ∈ cs, ∀ q ∈ cs, p ≠ q → Dj (f p.2) (f q.2)
  all : ∃ q, f 6 = .slice (some ⟨q, 0, none⟩) 7 7 ∧ w2.heap.size ≤ q ∧ w.heap[q]? = some (.cells #[f 26, f 31, f 36, f 41, f 45, f 47, f 51] 22 (0, 0))
theorem row_shape {B : Nat} {w : World} {v : Value} (h : Row Sub B w v) : ∃ x n c, v = .slice x n c := by
  obtain ⟨lst, h1, _⟩ := h
  obtain ⟨a, c, e, _⟩ := h1.shape
  exact ⟨a, _, c, e⟩
theorem all_up {ops : Array Oper} {l : Array Bool} (hsz : ops.size = 31) (hl : l.size = 31) (hord : (List.range 31).all (fun j => match ops[j]? with | some o => o.after.all (fun e => !(Region.binds .any e) || decide (e.on < j)) | none => true) = true) (hr : Region.ready .any ops l = []) : ∀ j, j < 31 → on l j = true := by
  intro j
  induction j using Nat.strongRecOn with
  | ind j ih =>
    intro hj
    cases e : on l j with
    | true => rfl
    | false =>
      exfalso
      have hjl : j < l.size := by omega
      have hu : l.getD j true = false := by
        unfold on at e
        simpa [hjl] using e
      have hjo : j < ops.size := by omega
      have hmem : j ∈ Region.ready .any ops l := mem_ready.2 ⟨hu, ops[j], Array.getElem?_eq_getElem hjo, fun e he hb => by
        have h1 := List.all_eq_true.1 hord j (List.mem_range.2 hj)
        rw [Array.getElem?_eq_getElem hjo] at h1
        have h2 := (Array.all_eq_true_iff_forall_mem.1 h1) e he
        rw [hb] at h2
        have h3 : e.on < j := by simpa using h2
        exact ih e.on h3 (by omega)⟩
      rw [hr] at hmem
      cases hmem
theorem region_any {ops : Array Oper} {Q : Exit → Act → World → Prop} {S : World → Prop} {x : Option Addr} {n c : Nat} {giv : Value} {A0 : Act} {w : World} {l : Array Bool} {fuel : Nat} (hsz : ops.size = 31) (hord : (List.range 31).all (fun j => match ops[j]? with | some o => o.after.all (fun e => !(Region.binds .any e) || decide (e.on < j)) | none => true) = true) (hA : A0.tmps.size = 153)
    (I3 : Is ops 3 (.call { callee := .value (.func 6), args := #[.tmp 25], argTypes := #[22] }) 26 [])
    (I7 : Is ops 7 (.buildSlice 24 1 #[(0, .tmp 29)]) 30 [])
    (I8 : Is ops 8 (.call { callee := .value (.func 7), args := #[.tmp 30], argTypes := #[24] }) 31 [7])
    (I12 : Is ops 12 (.buildSlice 24 1 #[(0, .tmp 34)]) 35 [])
    (I13 : Is ops 13 (.call { callee := .value (.func 8), args := #[.tmp 35], argTypes := #[24] }) 36 [12])
    (I17 : Is ops 17 (.buildSlice 24 1 #[(0, .tmp 39)]) 40 [])
    (I18 : Is ops 18 (.call { callee := .value (.func 9), args := #[.tmp 40], argTypes := #[24] }) 41 [17])
    (I22 : Is ops 22 (.call { callee := .value (.func 10), args := #[.tmp 44, .const (.string ⟨#[]⟩), .const (.int .i64 1099511627776)], argTypes := #[22, 9, 3] }) 45 [])
    (I24 : Is ops 24 (.call { callee := .value (.func 7), args := #[.tmp 46], argTypes := #[24] }) 47 [])
    (I28 : Is ops 28 (.call { callee := .value (.func 6), args := #[.tmp 50], argTypes := #[22] }) 51 [])
    (I29 : Is ops 29 (.buildSlice 24 7 #[(0, .tmp 26), (1, .tmp 31), (2, .tmp 36), (3, .tmp 41), (4, .tmp 45), (5, .tmp 47), (6, .tmp 51)]) 52 [3, 8, 13, 18, 22, 24, 28])
    (I30 : Is ops 30 (.assign (.tmp 52)) 6 [29])
    (e25 : A0.eval (.tmp 25) = .slice x n c) (e29 : A0.eval (.tmp 29) = .slice x n c) (e34 : A0.eval (.tmp 34) = .slice x n c) (e39 : A0.eval (.tmp 39) = .slice x n c) (e44 : A0.eval (.tmp 44) = .slice x n c) (e46 : A0.eval (.tmp 46) = giv) (e50 : A0.eval (.tmp 50) = .slice x n c)
    (hS : ∀ W, On w2 W → S W)
    (k6 : ∀ W, On w2 W → Calls Try.prog 6 #[.slice x n c] W (Gives Sub W))
    (k7 : ∀ W q, On w2 W → W.heap[q]? = some (.cells #[.slice x n c] 22 (0, 0)) → Calls Try.prog 7 #[.slice (some ⟨q, 0, none⟩) 1 1] W (Gives Sub W))
    (k8 : ∀ W q, On w2 W → W.heap[q]? = some (.cells #[.slice x n c] 22 (0, 0)) → Calls Try.prog 8 #[.slice (some ⟨q, 0, none⟩) 1 1] W (Gives Sub W))
    (k9 : ∀ W q, On w2 W → W.heap[q]? = some (.cells #[.slice x n c] 22 (0, 0)) → Calls Try.prog 9 #[.slice (some ⟨q, 0, none⟩) 1 1] W (Gives Sub W))
    (k10 : ∀ W, On w2 W → Calls Try.prog 10 #[.slice x n c, .string ⟨#[]⟩, .int .i64 1099511627776] W (Gives Sub W))
    (kg : ∀ W, On w2 W → Calls Try.prog 7 #[giv] W (Gives Sub W))
    (hl : l.size = 31) (hp : ∀ k ∈ [0, 1, 2, 4, 5, 6, 9, 10, 11, 14, 15, 16, 19, 20, 21, 23, 25, 26, 27], on l k = true) (hno : ∀ k ∈ [3, 7, 8, 12, 13, 17, 18, 22, 24, 28, 29, 30], on l k = false) (hc : cntF l ≤ fuel) (hw : On w2 w)
    {F : (Nat → Value) → Act} (hFF : ∀ f, puts A0 f = F f) (hfin0 : ∀ f W, Done Sub w2 f W → Q .normal (F f) W) : wpAnyH Try.prog .any ops Q S fuel l A0 w := by
  have hfin : ∀ f W, Done Sub w2 f W → Q .normal (puts A0 f) W := fun f W d => by rw [hFF]; exact hfin0 f W d
  have hcs : ∀ p ∈ cs, p.1 ∈ [3, 7, 8, 12, 13, 17, 18, 22, 24, 28, 29, 30] := by decide
  have hbs : ∀ p ∈ bsl, p.1 ∈ [3, 7, 8, 12, 13, 17, 18, 22, 24, 28, 29, 30] := by decide
  have noo : ∀ {k : Nat} {p : Prop}, k ∈ [3, 7, 8, 12, 13, 17, 18, 22, 24, 28, 29, 30] → on l k = true → p := fun hk e => by rw [hno _ hk] at e; cases e
  refine inv_any (Inv := Iv Sub w2 (.slice x n c) A0) (fun l a w h => hS w h.onw) (fun l a w h hr => ?_) (fun l a w i h hr => ?_) fuel l A0 w hc ⟨hl, hp, hw, _, (puts_self A0).symm, fun p hp e => noo (hcs p hp) e, fun p hp q hq _ e _ => noo (hcs p hp) e, fun p hp e => noo (hbs p hp) e, fun e => noo (by decide) e, fun e => noo (by decide) e⟩
  · -- all have come up
    have hall : on l 30 = true := all_up hsz h.size hord hr 30 (by decide)
    obtain ⟨f, rfl, h1, h2, h3, h4, h5⟩ := h.ex
    obtain ⟨e29, e6⟩ := h5 hall
    obtain ⟨hcs1, q, z1, z2, z3⟩ := h4 e29
    exact hfin f w ⟨h.onw, fun p hp => h1 p hp (hcs1 p hp), fun p hp q hq hne => h2 p hp q hq hne (hcs1 p hp) (hcs1 q hq), q, by rw [e6]; exact z1, z2, z3⟩
  · have hu := (mem_ready.1 hr).1
    have hlt : i < 31 := by
      rw [← h.size]
      rcases Nat.lt_or_ge i l.size with q | q
      · exact q
      · simp [Array.getElem?_eq_none q] at hu
    have hpn : i ∉ [0, 1, 2, 4, 5, 6, 9, 10, 11, 14, 15, 16, 19, 20, 21, 23, 25, 26, 27] := fun hk => by
      have := h.pure i hk
      unfold on at this
      have hi : i < l.size := by rw [h.size]; exact hlt
      simp [hi] at this hu
      rw [this] at hu
      cases hu
    have hcase : i = 3 ∨ i = 7 ∨ i = 8 ∨ i = 12 ∨ i = 13 ∨ i = 17 ∨ i = 18 ∨ i = 22 ∨ i = 24 ∨ i = 28 ∨ i = 29 ∨ i = 30 := by
      simp at hpn
      omega
    have hs : ∀ s ∈ slots, s < A0.tmps.size := by rw [hA]; decide
    obtain ⟨f, hf, h1, h2, h3, h4, h5⟩ := h.ex
    have out : ∀ t, t ∉ slots → a.eval (.tmp t) = A0.eval (.tmp t) := fun t ht => by rw [hf]; exact eval_out ht
    have inn : ∀ t, t ∈ slots → a.eval (.tmp t) = f t := fun t ht => by rw [hf]; exact eval_in ht (hs t ht)
    have give : ∀ (s : Nat) (hp : (i, s) ∈ cs) (e : Ending) (w' : World), Gives Sub w e w' → ∃ v, e = .returned v ∧ Iv Sub w2 (.slice x n c) A0 (l.setIfInBounds i true) (a.put (some s) v) w' := fun s hp e w' hg => by
      obtain ⟨r, y, g1, g2, g3, g4⟩ := hg
      exact ⟨r, g1, h.call hp hu g2 g3 g4⟩
    rcases hcase with rfl | rfl | rfl | rfl | rfl | rfl | rfl | rfl | rfl | rfl | rfl | rfl
    · refine I3.call (fun o ho => exec_6 a w 25 o ho) ?_
      rw [out 25 (by decide), e25]
      exact (k6 w h.onw).mono fun e w' hg => give _ (by decide) e w' hg
    · refine I7.value (fun o ho => exec_build1 a w 29 x n c (by rw [out 29 (by decide), e29]) o ho) ?_
      exact h.build (p := (7, 30)) (by decide) hu
    · obtain ⟨q, z1, z2⟩ := h3 (7, 30) (by decide) (I8.dep hr (by decide))
      refine I8.call (fun o ho => exec_7 a w 30 o ho) ?_
      rw [inn 30 (by decide), z1]
      exact (k7 w q h.onw z2).mono fun e w' hg => give _ (by decide) e w' hg
    · refine I12.value (fun o ho => exec_build1 a w 34 x n c (by rw [out 34 (by decide), e34]) o ho) ?_
      exact h.build (p := (12, 35)) (by decide) hu
    · obtain ⟨q, z1, z2⟩ := h3 (12, 35) (by decide) (I13.dep hr (by decide))
      refine I13.call (fun o ho => exec_8 a w 35 o ho) ?_
      rw [inn 35 (by decide), z1]
      exact (k8 w q h.onw z2).mono fun e w' hg => give _ (by decide) e w' hg
    · refine I17.value (fun o ho => exec_build1 a w 39 x n c (by rw [out 39 (by decide), e39]) o ho) ?_
      exact h.build (p := (17, 40)) (by decide) hu
    · obtain ⟨q, z1, z2⟩ := h3 (17, 40) (by decide) (I18.dep hr (by decide))
      refine I18.call (fun o ho => exec_9 a w 40 o ho) ?_
      rw [inn 40 (by decide), z1]
      exact (k9 w q h.onw z2).mono fun e w' hg => give _ (by decide) e w' hg
    · refine I22.call (fun o ho => exec_10 a w 44 o ho) ?_
      rw [out 44 (by decide), e44]
      exact (k10 w h.onw).mono fun e w' hg => give _ (by decide) e w' hg
    · refine I24.call (fun o ho => exec_7 a w 46 o ho) ?_
      rw [out 46 (by decide), e46]
      exact (kg w h.onw).mono fun e w' hg => give _ (by decide) e w' hg
    · refine I28.call (fun o ho => exec_6 a w 50 o ho) ?_
      rw [out 50 (by decide), e50]
      exact (k6 w h.onw).mono fun e w' hg => give _ (by decide) e w' hg
    · have d : ∀ k ∈ [3, 8, 13, 18, 22, 24, 28], on l k = true := fun k hk => I29.dep hr hk
      have hall : ∀ p ∈ cs, on l p.1 = true := fun p hp => d _ (by revert hp; revert p; decide)
      obtain ⟨x0, n0, c0, s0⟩ := row_shape (h1 (3, 26) (by decide) (hall _ (by decide)))
      obtain ⟨x1, n1, c1, s1⟩ := row_shape (h1 (8, 31) (by decide) (hall _ (by decide)))
      obtain ⟨x2, n2, c2, s2⟩ := row_shape (h1 (13, 36) (by decide) (hall _ (by decide)))
      obtain ⟨x3, n3, c3, s3⟩ := row_shape (h1 (18, 41) (by decide) (hall _ (by decide)))
      obtain ⟨x4, n4, c4, s4⟩ := row_shape (h1 (22, 45) (by decide) (hall _ (by decide)))
      obtain ⟨x5, n5, c5, s5⟩ := row_shape (h1 (24, 47) (by decide) (hall _ (by decide)))
      obtain ⟨x6, n6, c6, s6⟩ := row_shape (h1 (28, 51) (by decide) (hall _ (by decide)))
      simp only at s0 s1 s2 s3 s4 s5 s6
      refine I29.value (fun o ho => exec_build7 a w 26 31 36 41 45 47 51 x0 x1 x2 x3 x4 x5 x6 n0 n1 n2 n3 n4 n5 n6 c0 c1 c2 c3 c4 c5 c6 (by rw [inn _ (by decide), s0]) (by rw [inn _ (by decide), s1]) (by rw [inn _ (by decide), s2]) (by rw [inn _ (by decide), s3]) (by rw [inn _ (by decide), s4]) (by rw [inn _ (by decide), s5]) (by rw [inn _ (by decide), s6]) o ho) ?_
      rw [← s0, ← s1, ← s2, ← s3, ← s4, ← s5, ← s6]
      exact h.last hu hall hf hA
    · refine I30.value (fun o ho => exec_move a w 52 o ho) ?_
      rw [inn 52 (by decide)]
      exact h.give (I30.dep hr (by decide)) hf hA
end
end Go.Proofs.Ythhlembempknmab.RegO
