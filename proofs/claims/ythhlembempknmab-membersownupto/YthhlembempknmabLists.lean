/- Lists of lists; Union, by halves. -/
import Derived.Test.YthhlembempknmabOf
import Derived.Test.YthhlembempknmabMerge
namespace Go.Proofs.Ythhlembempknmab.Lists
open Go.RowKit Go.Sort
open Go.Proofs.Ythhlembempknmab.SetMath
open Go.Proofs.Ythhlembempknmab.Base
open Go.Proofs.Ythhlembempknmab.Of
open Go.Proofs.Ythhlembempknmab.Merge
set_option linter.unusedVariables false
set_option linter.unusedSimpArgs false
def RdV (G : Nat → Prop) (w : World) (a : Option Addr) (us : List Value) : Prop := us = [] ∨ ∃ g o, a = some ⟨g, o, none⟩ ∧ G g ∧ ∀ j u, us[j]? = some u → w.cell? ⟨g, o + j, none⟩ = some u
theorem RdV.lt {G : Nat → Prop} {w : World} {a : Option Addr} {l : List Value} (h : RdV G w a l) : RdV (fun k => G k ∧ k < w.heap.size) w a l := by
  rcases h with rfl | ⟨g, o, rfl, hG, hc⟩
  · exact .inl rfl
  · cases l with
    | nil => exact .inl rfl
    | cons x r => exact .inr ⟨g, o, rfl, ⟨hG, cell_lt (hc 0 x rfl)⟩, hc⟩
theorem RdV.mono {G G' : Nat → Prop} {w : World} {a : Option Addr} {l : List Value} (h : RdV G w a l) (hG : ∀ k, k < w.heap.size → G k → G' k) : RdV G' w a l := by
  rcases h.lt with rfl | ⟨g, o, rfl, hg, hc⟩
  · exact .inl rfl
  · exact .inr ⟨g, o, rfl, hG g hg.2 hg.1, hc⟩
theorem RdV.keep {G : Nat → Prop} {w w' : World} {a : Option Addr} {l : List Value} (h : RdV G w a l) (hk : ∀ k, k < w.heap.size → G k → w'.heap[k]? = w.heap[k]?) : RdV G w' a l := by
  rcases h.lt with rfl | ⟨g, o, rfl, hg, hc⟩
  · exact .inl rfl
  · exact .inr ⟨g, o, rfl, hg.1, fun j x hj => (World.cell?_of_block (w := w) (hk g hg.2 hg.1)).trans (hc j x hj)⟩
theorem RdV.take {G : Nat → Prop} {w : World} {a : Option Addr} {l : List Value} (h : RdV G w a l) (k : Nat) : RdV G w a (l.take k) := by
  rcases h with rfl | ⟨g, o, rfl, hg, hc⟩
  · exact .inl (by simp)
  · exact .inr ⟨g, o, rfl, hg, fun j x hj => hc j x (by
      rw [List.getElem?_take] at hj
      split at hj
      · exact hj
      · cases hj)⟩
theorem RdV.drop {G : Nat → Prop} {w : World} {a : Option Addr} {l : List Value} (h : RdV G w a l) {c : Nat} (hc : l.length ≤ c) (i : Nat) : RdV G w (ca a c i) (l.drop i) := by
  by_cases q : l.length ≤ i
  · exact .inl (List.drop_eq_nil_of_le q)
  · rcases h with rfl | ⟨g, o, rfl, hg, hr⟩
    · exact .inl (by simp)
    · refine .inr ⟨g, o + i, ca_some g o c i (by omega), hg, fun j x hj => ?_⟩
      rw [List.getElem?_drop] at hj
      have := hr _ x hj
      rwa [show o + (i + j) = o + i + j by omega] at this
theorem RdV.get {G : Nat → Prop} {w : World} {a : Option Addr} {l : List Value} (h : RdV G w a l) (hl : 0 < l.length) : ∃ g o, a = some ⟨g, o, none⟩ ∧ G g ∧ ∀ j x, l[j]? = some x → w.cell? ⟨g, o + j, none⟩ = some x := by
  rcases h with e | q
  · rw [e] at hl; simp at hl
  · exact q
/-- the lists ls lie at a, with the headers us -/
structure LL (G : Nat → Prop) (w : World) (a : Option Addr) (ls : List (List El)) (us : List Value) : Prop where
  len : us.length = ls.length
  rd : RdV G w a us
  el : ∀ (j : Nat) (u : Value) (l : List El), us[j]? = some u → ls[j]? = some l → SL G w u l
theorem LL.keep {G : Nat → Prop} {w w' : World} {a : Option Addr} {ls : List (List El)} {us : List Value} (h : LL G w a ls us) (hk : ∀ k, k < w.heap.size → G k → w'.heap[k]? = w.heap[k]?) : LL G w' a ls us :=
  ⟨h.len, h.rd.keep hk, fun j u l h1 h2 => (h.el j u l h1 h2).keep hk⟩
theorem LL.below {G : Nat → Prop} {w w' : World} {a : Option Addr} {ls : List (List El)} {us : List Value} (h : LL G w a ls us) (b : Below w.heap.size w w') : LL G w' a ls us := h.keep fun k hk _ => b.block k hk
theorem LL.mono {G G' : Nat → Prop} {w : World} {a : Option Addr} {ls : List (List El)} {us : List Value} (h : LL G w a ls us) (hG : ∀ k, k < w.heap.size → G k → G' k) : LL G' w a ls us :=
  ⟨h.len, h.rd.mono hG, fun j u l h1 h2 => (h.el j u l h1 h2).mono hG⟩
theorem LL.take {G : Nat → Prop} {w : World} {a : Option Addr} {ls : List (List El)} {us : List Value} (h : LL G w a ls us) (k : Nat) : LL G w a (ls.take k) (us.take k) :=
  ⟨by rw [List.length_take, List.length_take, h.len], h.rd.take k, fun j u l h1 h2 => by
    rw [List.getElem?_take] at h1 h2
    split at h1
    · rename_i q
      rw [if_pos q] at h2
      exact h.el j u l h1 h2
    · cases h1⟩
theorem LL.drop {G : Nat → Prop} {w : World} {a : Option Addr} {ls : List (List El)} {us : List Value} (h : LL G w a ls us) {c : Nat} (hc : ls.length ≤ c) (k : Nat) : LL G w (ca a c k) (ls.drop k) (us.drop k) :=
  ⟨by rw [List.length_drop, List.length_drop, h.len], h.rd.drop (by rw [h.len]; exact hc) k, fun j u l h1 h2 => by
    rw [List.getElem?_drop] at h1 h2
    exact h.el _ u l h1 h2⟩
/-- the list at a place -/
theorem LL.get {G : Nat → Prop} {w : World} {a : Option Addr} {ls : List (List El)} {us : List Value} (h : LL G w a ls us) {j : Nat} {l : List El} (hj : ls[j]? = some l) : ∃ g o u, a = some ⟨g, o, none⟩ ∧ w.cell? ⟨g, o + j, none⟩ = some u ∧ SL G w u l := by
  have hl : j < ls.length := (List.getElem?_eq_some_iff.1 hj).1
  have hu : j < us.length := by rw [h.len]; exact hl
  obtain ⟨g, o, e, _, q⟩ := h.rd.get (by omega)
  exact ⟨g, o, us[j], e, q j _ (List.getElem?_eq_getElem hu), h.el j _ _ (List.getElem?_eq_getElem hu) hj⟩
def tot (ls : List (List El)) : Nat := (ls.map (·.length)).sum
theorem tot_cons (l : List El) (ls : List (List El)) : tot (l :: ls) = l.length + tot ls := by simp [tot]
theorem tot_split (ls : List (List El)) (k : Nat) : tot (ls.take k) + tot (ls.drop k) = tot ls := by
  unfold tot
  rw [← List.sum_append_nat, ← List.map_append, List.take_append_drop]
theorem tot_mem {l : List El} : ∀ {ls : List (List El)}, l ∈ ls → l.length ≤ tot ls
  | x :: r, h => by
    rw [tot_cons]
    rcases List.mem_cons.1 h with rfl | h
    · omega
    · have := tot_mem h; omega
theorem size22 (w : World) : (Go.sizeOf 22).run Try.prog w = .ok 1 w := by kernel_rfl
theorem cutL_lo (a : Option Addr) (n c i : Nat) (x : Int) (hx : x = i) (hi : i ≤ n) (w : World) :
    (Instr.slice 24 (.slice a n c) (some (.int .i64 x)) none none).run Try.prog w = .ok (.slice (ca a c i) (n - i) (c - i)) w := by
  subst hx
  have h1 : (i : Int) ≤ n := by omega
  simp [Instr.slice, run_underlying Try.underlying24, Instr.sliceBounds, run_sliceBound, size22, ca, h1]
theorem cutL_hi (a : Option Addr) (n c j : Nat) (y : Int) (hy : y = j) (hj : j ≤ c) (w : World) :
    (Instr.slice 24 (.slice a n c) none (some (.int .i64 y)) none).run Try.prog w = .ok (.slice a j c) w := by
  subst hy
  have h2 : (j : Int) ≤ c := by omega
  have := ca_zero a c
  unfold ca at this
  simp [Instr.slice, run_underlying Try.underlying24, Instr.sliceBounds, run_sliceBound, size22, h2, this]
set_option maxHeartbeats 2000000 in
set_option maxRecDepth 100000 in
theorem union_any {G : Nat → Prop} : ∀ (N : Nat) {w : World} {a : Option Addr} {c : Nat} {ls : List (List El)} {us : List Value}, ls.length ≤ N → LL G w a ls us → ls.length ≤ c → ls.length ≤ 140737488355328 → tot ls * 16 ≤ 140737488355328 →
    Calls Try.prog 7 #[.slice a ls.length c] w fun e w' => ∃ r, e = .returned r ∧ NR w.heap.size w' r (uni ls) ∧ Below w.heap.size w w'
  | _, w, a, c, [], us, _, h, hc, hl, hb => by
    have HU : Hid (uni [] = []) := uni_nil
    rw [List.length_nil]
    go_enter Try.func7, Try.ntmps7
    go_wp2_with fail
    go_ret
    exact ⟨_, rfl, .inl ⟨rfl, HU.out⟩, Below.refl _ _⟩
  | _, w, a, c, [l], us, _, h, hc, hl, hb => by
    have HU : Hid (uni [l] = S l) := uni_one l
    obtain ⟨g, o, u, rfl, c0, sl⟩ := h.get (j := 0) rfl
    rw [Nat.add_zero] at c0
    have HO := hid_of (of_call sl (by rw [tot_cons] at hb; omega))
    have e1 : [l].length = 1 := rfl
    rw [e1] at *
    obtain ⟨ua, uc, rfl, _⟩ := SL.len sl
    generalize l.length = n0 at *
    clear h sl hb e1
    go_enter Try.func7, Try.ntmps7
    go_wp2_with fail
    refine HO.out.mono ?_
    rintro e w1 ⟨r, rfl, n1, b1⟩
    have K := hid_of (And.intro n1 b1)
    obtain ⟨ra, rc, rfl, _⟩ := n1.shape
    clear n1 b1
    go_wp2_with fail
    go_ret
    exact ⟨_, rfl, by rw [HU.out]; exact K.out.1, K.out.2⟩
  | 0, w, a, c, l0 :: l1 :: lr, us, hN, h, hc, hl, hb => by simp at hN
  | N + 1, w, a, c, l0 :: l1 :: lr, us, hN, h, hc, hl, hb => by
    obtain ⟨ls, hls⟩ : ∃ ls, ls = l0 :: l1 :: lr := ⟨_, rfl⟩
    have h2 : 2 ≤ ls.length := by rw [hls]; simp
    rw [← hls] at h hc hl hb hN ⊢
    clear hls
    obtain ⟨k, hk⟩ : ∃ k, k = ls.length / 2 := ⟨_, rfl⟩
    have hk1 : 1 ≤ k := by omega
    have hk2 : k < ls.length := by omega
    have ht := tot_split ls k
    have e1 : (ls.take k).length = k := by rw [List.length_take]; omega
    have e2 : (ls.drop k).length = ls.length - k := List.length_drop
    have HU : Hid (mrg true true true (uni (ls.take k)) (uni (ls.drop k)) = uni ls) := hid_of (by rw [uni_app, List.take_append_drop])
    have L1 := len_uni (ls.take k)
    have L2 := len_uni (ls.drop k)
    have LB : ((uni (ls.take k)).length + (uni (ls.drop k)).length) * 16 ≤ 140737488355328 := by
      have h1 : (uni (ls.take k)).length ≤ tot (ls.take k) := L1
      have h2 : (uni (ls.drop k)).length ≤ tot (ls.drop k) := L2
      omega
    have HA := hid_of fun (W : World) (b : Below w.heap.size w W) => union_any N (c := c) (by rw [e1]; omega) ((h.below b).take k) (by rw [e1]; omega) (by rw [e1]; omega) (by omega)
    have HB := hid_of fun (W : World) (b : Below w.heap.size w W) => union_any N (c := c - k) (by rw [e2]; omega) ((h.below b).drop hc k) (by rw [e2]; omega) (by rw [e2]; omega) (by omega)
    rw [e1] at HA
    rw [e2] at HB
    have HM := hid_of fun (W : World) (u v : Value) (n1 : NR w.heap.size W u (uni (ls.take k))) (n2 : NR w.heap.size W v (uni (ls.drop k))) => merge_call true true true n1.sl n2.sl LB
    have cut1 := cutL_hi a ls.length c k (k : Int) rfl (by omega)
    have cut2 := cutL_lo a ls.length c k (k : Int) rfl (by omega)
    have wq : IntKind.i64.wrap ((ls.length : Int) / 2) = (k : Int) := by rw [show ((ls.length : Int) / 2) = (k : Int) by omega]; exact IntWalk.i64_in _ (by omega)
    have wq2 : ((ls.length : Int) / 2) = (k : Int) := by omega
    have g1 : ((ls.length : Int) == 0) = false := by rw [beq_eq_false_iff_ne]; omega
    have g2 : ((ls.length : Int) == 1) = false := by rw [beq_eq_false_iff_ne]; omega
    have d1 : Hid (Below w.heap.size w w.drew) := bel_drewN w 1
    generalize hA : ca a c k = A2 at *
    generalize ls.length = L at *
    clear h hA ht e1 e2 L1 L2 LB hb hk
    go_enter Try.func7, Try.ntmps7
    go_wp2_with fail
    go_region_with (first
      | (go_at_call_of 7 (Value.slice a k c); refine (HA.out _ (by first | exact d1.out | exact B2.out)).mono ?_; rintro e w1 ⟨v1, rfl, n1, k1⟩; have N1 := hid_of n1; have B1 : Hid (Below w.heap.size w w1) := (by first | exact B2.out.trans (k1.mono B2.out.size) | exact d1.out.trans k1); have K1 := hid_of k1; clear n1 k1 HA)
      | (go_at_call_of 7 (Value.slice A2 (L - k) (c - k)); refine (HB.out _ (by first | exact B1.out | exact d1.out)).mono ?_; rintro e w2 ⟨v2, rfl, n2, k2⟩; have N2 := hid_of n2; have B2 : Hid (Below w.heap.size w w2) := (by first | exact B1.out.trans (k2.mono B1.out.size) | exact d1.out.trans k2); have K2 := hid_of k2; clear n2 k2 HB)
      | (go_at_call 20; refine (HM.out _ _ _ (by first | exact N1.out.below K2.out | exact N1.out.mono B2.out.size) (by first | exact N2.out.mono B1.out.size | exact N2.out.below K1.out)).mono ?_; rintro e w3 ⟨v3, rfl, n3, k3⟩; have K3 : Hid (NR w.heap.size w3 v3 (uni ls) ∧ Below w.heap.size w w3) := (by first | exact ⟨by rw [← HU.out]; exact n3.mono B2.out.size, B2.out.trans (k3.mono B2.out.size)⟩ | exact ⟨by rw [← HU.out]; exact n3.mono B1.out.size, B1.out.trans (k3.mono B1.out.size)⟩); clear n3 k3))
    all_goals
      go_wp2_with fail
      go_ret
      exact ⟨v3, rfl, K3.out⟩
theorem union_call {G : Nat → Prop} {w : World} {a : Option Addr} {c : Nat} {ls : List (List El)} {us : List Value} (h : LL G w a ls us) (hc : ls.length ≤ c) (hl : ls.length ≤ 140737488355328) (hb : tot ls * 16 ≤ 140737488355328) :
    Calls Try.prog 7 #[.slice a ls.length c] w fun e w' => ∃ r, e = .returned r ∧ NR w.heap.size w' r (uni ls) ∧ Below w.heap.size w w' := union_any ls.length (Nat.le_refl _) h hc hl hb
end Go.Proofs.Ythhlembempknmab.Lists
