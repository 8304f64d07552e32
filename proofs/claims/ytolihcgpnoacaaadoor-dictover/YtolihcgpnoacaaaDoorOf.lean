/- Of: the names must rise; then a dict of the fields. The document's own Rises. -/
import Derived.Test.YtolihcgpnoacaaaDoorSmall
namespace Go.Proofs.YtolihcgpnoacaaaDoor.Of
open Go.RowKit Go.Maps
open Go.Proofs.YtolihcgpnoacaaaDoor.DictMath
open Go.Proofs.YtolihcgpnoacaaaDoor.Base
open Go.Proofs.YtolihcgpnoacaaaDoor.Small
set_option linter.unusedVariables false

theorem ris_adj : ∀ {l : FL}, (∀ i (h : i + 1 < l.length), (l[i]'(Nat.lt_of_succ_lt h)).1 < (l[i + 1]'h).1) → Ris l
  | [], _ => List.Pairwise.nil
  | [a], _ => List.pairwise_singleton _ _
  | a :: b :: r, h => by
    have ih : Ris (b :: r) := ris_adj (fun i hi => h (i + 1) (by simpa using hi))
    have hab : a.1 < b.1 := h 0 (by simp)
    refine List.pairwise_cons.2 ⟨fun p hp => ?_, ih⟩
    rcases List.mem_cons.1 hp with rfl | hp'
    · exact hab
    · exact List.lt_trans hab (ih.head p hp')
theorem adj_ris {l : FL} (h : Ris l) (i : Nat) (hi : i + 1 < l.length) : (l[i]'(Nat.lt_of_succ_lt hi)).1 < (l[i + 1]'hi).1 := List.pairwise_iff_getElem.1 h i (i + 1) (Nat.lt_of_succ_lt hi) hi (Nat.lt_succ_self i)
def Adj (l : FL) (k : Nat) : Prop := ∀ i (h : i + 1 < l.length), i + 1 < k → (l[i]'(Nat.lt_of_succ_lt h)).1 < (l[i + 1]'h).1
theorem adj_more {l : FL} {j : Nat} (h : Adj l (j + 1)) (hj : j + 1 < l.length) (hlt : (l[j]'(Nat.lt_of_succ_lt hj)).1 < (l[j + 1]'hj).1) : Adj l (j + 1 + 1) := fun i hi hk => by
  by_cases e : i = j
  · subst e; exact hlt
  · exact h i hi (by omega)
theorem FS.at {w : World} {a : Option Addr} {n c : Nat} {l : FL} (h : FS w (.slice a n c) l) {k : Nat} (hk : k < l.length) : n = l.length ∧ ∃ g o, a = some ⟨g, o, none⟩ ∧ ∀ k (h : k < l.length), w.cell? ⟨g, o + k * 2, none⟩ = some (.string (mk (l[k]'h).1)) ∧ w.cell? ⟨g, o + k * 2 + 1, none⟩ = some (.string (mk (l[k]'h).2)) := by
  obtain ⟨a', c', e, h⟩ := h
  injection e with e1 e2 e3
  subst e1
  refine ⟨e2, ?_⟩
  rcases h with rfl | h
  · simp at hk
  · exact h
instance (l : FL) : Decidable (Ris l) := inferInstanceAs (Decidable (List.Pairwise _ l))
theorem less_mk (a b : Bs) : Op.bytesLess (mk a).toList (mk b).toList = decide (a < b) := by rw [mk_list, mk_list]; exact bytesLess_eq _ _
set_option maxHeartbeats 1000000 in
set_option maxRecDepth 100000 in
theorem rises_call (v : Value) (l : FL) (w : World) (h : FS w v l) (hl : l.length ≤ 140737488355328) : Calls Tryd.prog 9 #[v] w fun e w' => e = .returned (.bool (decide (Ris l))) ∧ Below w.heap.size w w' := by
  obtain ⟨a, c, rfl, h'⟩ := h
  have HF := hid_of h'
  clear h'
  go_enter Tryd.func9, Tryd.ntmps9
  go_wp2_with fail
  go_loopg [3] l.length (fun g si wx => ∃ K : Nat, 1 ≤ K ∧ K ≤ l.length + 1 ∧ l.length ≤ K + g ∧ si = .int .i64 (K : Int) ∧ Hid (Adj l K) ∧ Hid (Below w.heap.size w wx))
  case atStart => exact ⟨1, by omega, by omega, by omega, rfl, hid_of (fun i hi hk => by omega), hid_of (Below.refl _ _)⟩
  case round =>
    obtain ⟨K, hK1, hK, hg, rfl, HA, HN⟩ := hrel
    by_cases hlt : K < l.length
    · obtain ⟨g', rfl⟩ : ∃ g', gk = g' + 1 := ⟨gk - 1, by omega⟩
      obtain ⟨J, hJ⟩ : ∃ J, K = J + 1 := ⟨K - 1, by omega⟩
      obtain ⟨gb, o, rfl, hc⟩ : ∃ g o, a = some ⟨g, o, none⟩ ∧ ∀ k (h : k < l.length), wr.cell? ⟨g, o + k * 2, none⟩ = some (.string (mk (l[k]'h).1)) ∧ wr.cell? ⟨g, o + k * 2 + 1, none⟩ = some (.string (mk (l[k]'h).2)) := by
        rcases HF.out with h | ⟨g, o, e, h⟩
        · subst h; simp at hlt
        · exact ⟨g, o, e, fun k hk => ⟨cell_on HN.out (h k hk).1, cell_on HN.out (h k hk).2⟩⟩
      have hJl : J < l.length := by omega
      have c0 := (hc J hJl).1
      have c1 := (hc K hlt).1
      have e1 : IntKind.i64.wrap ((K : Int) - 1) = (J : Int) := by rw [show (K : Int) - 1 = (J : Int) from by omega]; exact IntWalk.i64_in _ (by omega)
      have e2 : IntKind.i64.wrap ((K : Int) + 1) = (K : Int) + 1 := IntWalk.i64_in _ (by omega)
      have g1 : (J : Int) < (l.length : Int) := by omega
      have g2 : (K : Int) < (l.length : Int) := by omega
      have hless := less_mk (l[J]'hJl).1 (l[K]'hlt).1
      have HL : Hid ((l[J]'hJl).1 < (l[K]'hlt).1 → Adj l (K + 1)) := hid_of (by subst hJ; exact fun q => adj_more HA.out hlt q)
      have HX : Hid (¬ (l[J]'hJl).1 < (l[K]'hlt).1 → ¬ Ris l) := hid_of (by subst hJ; exact fun q r => q (adj_ris r J hlt))
      clear hc HF
      by_cases hq : (l[J]'hJl).1 < (l[K]'hlt).1
      · rw [decide_eq_true hq] at hless
        have HL2 := hid_of (HL.out hq)
        clear hq HL HX hJ
        generalize mk (l[J]'hJl).1 = X at c0 hless
        generalize mk (l[K]'hlt).1 = Y at c1 hless
        go_wp2_with fail
        go_quiet (fail)
        go_wp2_with fail
        go_roundg g'
        case measure => omega
        case rel => exact ⟨K + 1, by omega, by omega, by omega, by rw [show ((K + 1 : Nat) : Int) = (K : Int) + 1 from by omega], HL2, hid_of (bdrew HN.out nq)⟩
      · rw [decide_eq_false hq] at hless
        have HL2 := hid_of (HX.out hq)
        clear hq HL HX hJ
        generalize mk (l[J]'hJl).1 = X at c0 hless
        generalize mk (l[K]'hlt).1 = Y at c1 hless
        go_wp2_with fail
        go_quiet (fail)
        go_wp2_with fail
        go_ret
        exact ⟨ret_b (decide_eq_false HL2.out).symm, bdrew HN.out nq⟩
    · have gi : ¬ (K : Int) < (l.length : Int) := by omega
      have HE : Hid (Ris l) := hid_of (ris_adj (fun i hi => HA.out i hi (by omega)))
      go_wp2_with fail
      go_ret
      exact ⟨ret_b (decide_eq_true HE.out).symm, HN.out⟩

/- the dict of the first k fields -/
structure Fill (l : FL) (B k : Nat) (w : World) : Prop where
  dk : DK B (B - 1) (l.take k) w
theorem take_snoc {l : FL} {k : Nat} (h : k < l.length) : l.take (k + 1) = l.take k ++ [l[k]] := List.take_succ_eq_append_getElem h
theorem fill_step {l : FL} (hr : Ris l) {k : Nat} (h : k < l.length) : withL (l.take k) (l[k]'h).1 (l[k]'h).2 = l.take (k + 1) := by
  rw [take_snoc h]
  refine with_snoc (fun p hp => ?_)
  obtain ⟨i, hi, rfl⟩ := List.getElem_of_mem hp
  rw [List.getElem_take]
  rw [List.length_take] at hi
  exact List.pairwise_iff_getElem.1 hr i k (by omega) h (by omega)
set_option maxHeartbeats 1000000 in
set_option maxRecDepth 100000 in
theorem of_no (v : Value) (l : FL) (w : World) (h : FS w v l) (hl : l.length ≤ 140737488355328) (hr : ¬ Ris l) : Calls Tryd.prog 8 #[v] w fun e w' => e = .returned (.tuple #[.pointer none, .int .i64 100]) ∧ Below w.heap.size w w' := by
  obtain ⟨a, c, rfl, h'⟩ := h
  have HF := hid_of h'
  clear h'
  go_enter Tryd.func8, Tryd.ntmps8
  go_wp2_with fail
  go_loopg [4] l.length (fun g si wx => ∃ K : Nat, 1 ≤ K ∧ K ≤ l.length + 1 ∧ l.length ≤ K + g ∧ si = .int .i64 (K : Int) ∧ Hid (Adj l K) ∧ Hid (Below w.heap.size w wx))
  case atStart => exact ⟨1, by omega, by omega, by omega, rfl, hid_of (fun i hi hk => by omega), hid_of (Below.refl _ _)⟩
  case round =>
    obtain ⟨K, hK1, hK, hg, rfl, HA, HN⟩ := hrel
    by_cases hlt : K < l.length
    · obtain ⟨g', rfl⟩ : ∃ g', gk = g' + 1 := ⟨gk - 1, by omega⟩
      obtain ⟨J, hJ⟩ : ∃ J, K = J + 1 := ⟨K - 1, by omega⟩
      obtain ⟨gb, o, rfl, hc⟩ : ∃ g o, a = some ⟨g, o, none⟩ ∧ ∀ k (h : k < l.length), wr.cell? ⟨g, o + k * 2, none⟩ = some (.string (mk (l[k]'h).1)) ∧ wr.cell? ⟨g, o + k * 2 + 1, none⟩ = some (.string (mk (l[k]'h).2)) := by
        rcases HF.out with h | ⟨g, o, e, h⟩
        · subst h; simp at hlt
        · exact ⟨g, o, e, fun k hk => ⟨cell_on HN.out (h k hk).1, cell_on HN.out (h k hk).2⟩⟩
      have hJl : J < l.length := by omega
      have c0 := (hc J hJl).1
      have c1 := (hc K hlt).1
      have e1 : IntKind.i64.wrap ((K : Int) - 1) = (J : Int) := by rw [show (K : Int) - 1 = (J : Int) from by omega]; exact IntWalk.i64_in _ (by omega)
      have e2 : IntKind.i64.wrap ((K : Int) + 1) = (K : Int) + 1 := IntWalk.i64_in _ (by omega)
      have g1 : (J : Int) < (l.length : Int) := by omega
      have g2 : (K : Int) < (l.length : Int) := by omega
      have hless := less_mk (l[J]'hJl).1 (l[K]'hlt).1
      have HL : Hid ((l[J]'hJl).1 < (l[K]'hlt).1 → Adj l (K + 1)) := hid_of (by subst hJ; exact fun q => adj_more HA.out hlt q)
      have HX : Hid (¬ (l[J]'hJl).1 < (l[K]'hlt).1 → ¬ Ris l) := hid_of (by subst hJ; exact fun q r => q (adj_ris r J hlt))
      clear hc HF
      by_cases hq : (l[J]'hJl).1 < (l[K]'hlt).1
      · rw [decide_eq_true hq] at hless
        have HL2 := hid_of (HL.out hq)
        clear hq HL HX hJ
        generalize mk (l[J]'hJl).1 = X at c0 hless
        generalize mk (l[K]'hlt).1 = Y at c1 hless
        go_wp2_with fail
        go_quiet (fail)
        go_wp2_with fail
        go_roundg g'
        case measure => omega
        case rel => exact ⟨K + 1, by omega, by omega, by omega, by rw [show ((K + 1 : Nat) : Int) = (K : Int) + 1 from by omega], HL2, hid_of (bdrew HN.out nq)⟩
      · rw [decide_eq_false hq] at hless
        have HL2 := hid_of (HX.out hq)
        clear hq HL HX hJ
        generalize mk (l[J]'hJl).1 = X at c0 hless
        generalize mk (l[K]'hlt).1 = Y at c1 hless
        go_wp2_with fail
        go_quiet (fail)
        go_wp2_with fail
        go_ret2
        exact ⟨rfl, bdrew HN.out nq⟩
    · exact absurd (ris_adj (fun i hi => HA.out i hi (by omega))) hr
def OfE (l : FL) (w : World) (e : Ending) (w' : World) : Prop := ∃ b m, e = .returned (.tuple #[ptr b, .int .i64 0]) ∧ DK b m l w' ∧ w.heap.size ≤ b ∧ w.heap.size ≤ m ∧ Below w.heap.size w w'
theorem mk_hint (n : Int) (w : World) : (Instr.makeMap 59 (some (.int .i64 n))).run Tryd.prog w = .ok (.map (some w.heap.size)) (w.alloc (.map #[] 0)) := by kernel_rfl
set_option maxHeartbeats 4000000 in
set_option maxRecDepth 100000 in
theorem of_yes (v : Value) (l : FL) (w : World) (h : FS w v l) (hl : l.length < 140737488355328) (hr : Ris l) (hs : ∀ p ∈ l, p.1.length ≤ 140737488355328 ∧ p.2.length ≤ 140737488355328) : Calls Tryd.prog 8 #[v] w fun e w' => OfE l w e w' := by
  obtain ⟨a, c, rfl, h'⟩ := h
  have HF := hid_of h'
  have HR := hid_of hr
  have HS := hid_of hs
  have hmm := mk_hint
  clear h' hr hs
  go_enter Tryd.func8, Tryd.ntmps8
  go_wp2_with fail
  go_loopg [4] l.length (fun g si wx => ∃ K : Nat, 1 ≤ K ∧ K ≤ l.length + 1 ∧ l.length ≤ K + g ∧ si = .int .i64 (K : Int) ∧ Hid (Below w.heap.size w wx))
  case atStart => exact ⟨1, by omega, by omega, by omega, rfl, hid_of (Below.refl _ _)⟩
  case round =>
    obtain ⟨K, hK1, hK, hg, rfl, HN⟩ := hrel
    by_cases hlt : K < l.length
    · obtain ⟨g', rfl⟩ : ∃ g', gk = g' + 1 := ⟨gk - 1, by omega⟩
      obtain ⟨J, hJ⟩ : ∃ J, K = J + 1 := ⟨K - 1, by omega⟩
      obtain ⟨gb, o, rfl, hc⟩ : ∃ g o, a = some ⟨g, o, none⟩ ∧ ∀ k (h : k < l.length), wr.cell? ⟨g, o + k * 2, none⟩ = some (.string (mk (l[k]'h).1)) ∧ wr.cell? ⟨g, o + k * 2 + 1, none⟩ = some (.string (mk (l[k]'h).2)) := by
        rcases HF.out with h | ⟨g, o, e, h⟩
        · subst h; simp at hlt
        · exact ⟨g, o, e, fun k hk => ⟨cell_on HN.out (h k hk).1, cell_on HN.out (h k hk).2⟩⟩
      have hJl : J < l.length := by omega
      have c0 := (hc J hJl).1
      have c1 := (hc K hlt).1
      have e1 : IntKind.i64.wrap ((K : Int) - 1) = (J : Int) := by rw [show (K : Int) - 1 = (J : Int) from by omega]; exact IntWalk.i64_in _ (by omega)
      have e2 : IntKind.i64.wrap ((K : Int) + 1) = (K : Int) + 1 := IntWalk.i64_in _ (by omega)
      have g1 : (J : Int) < (l.length : Int) := by omega
      have g2 : (K : Int) < (l.length : Int) := by omega
      have hless := less_mk (l[J]'hJl).1 (l[K]'hlt).1
      clear hc
      by_cases hq : (l[J]'hJl).1 < (l[K]'hlt).1
      · rw [decide_eq_true hq] at hless
        clear hq hJ
        generalize mk (l[J]'hJl).1 = X at c0 hless
        generalize mk (l[K]'hlt).1 = Y at c1 hless
        go_wp2_with fail
        go_quiet (fail)
        go_wp2_with fail
        go_roundg g'
        case measure => omega
        case rel => exact ⟨K + 1, by omega, by omega, by omega, by rw [show ((K + 1 : Nat) : Int) = (K : Int) + 1 from by omega], hid_of (bdrew HN.out nq)⟩
      · exact absurd (by subst hJ; exact adj_ris HR.out J hlt) hq
    · have gi : ¬ (K : Int) < (l.length : Int) := by omega
      clear hK hK1 hg hlt
      obtain ⟨B, hB⟩ : ∃ B, B = wr.heap.size := ⟨_, rfl⟩
      have HB := hid_of hB
      have HD0 := hid_of (show DK (B + 1) B (l.take 0) ((wr.alloc (.map #[] 0)).alloc (.cells #[.map (some B)] 61)) from by
        have m1 := World.ownsMap_made wr Tryd.prog 9 RC
        rw [← hB] at m1
        refine ⟨?_, ?_, List.Pairwise.nil, fun p hp => by cases hp⟩
        · have := heap_alloc_new (wr.alloc (.map #[] 0)) (.cells #[.map (some B)] 61)
          rw [show (wr.alloc (.map #[] 0)).heap.size = B + 1 from by rw [hB]; simp] at this
          exact this
        · exact m1.alloc _)
      have HB0 : Hid (Below w.heap.size w ((wr.alloc (.map #[] 0)).alloc (.cells #[.map (some B)] 61))) := hid_of ((HN.out.alloc HN.out.size _).alloc (by have := HN.out.size; simp; omega) _)
      have HBW : Hid (w.heap.size ≤ B) := hid_of (by rw [hB]; exact HN.out.size)
      clear hB
      go_wp2_with fail
      rw [← HB.out]
      go_loopg [33] l.length (fun g si wx => ∃ k : Nat, k ≤ l.length ∧ l.length ≤ k + g ∧ si = .int .i64 (k : Int) ∧ Hid (DK (B + 1) B (l.take k) wx) ∧ Hid (Below w.heap.size w wx))
      case atStart => exact ⟨0, by omega, by omega, rfl, HD0, HB0⟩
      case round =>
        obtain ⟨k, hk, hg, rfl, HD, HN2⟩ := hrel
        by_cases hlt : k < l.length
        · obtain ⟨g', rfl⟩ : ∃ g', gk = g' + 1 := ⟨gk - 1, by omega⟩
          obtain ⟨gb, o, rfl, hc⟩ : ∃ g o, a = some ⟨g, o, none⟩ ∧ ∀ k (h : k < l.length), wr.cell? ⟨g, o + k * 2, none⟩ = some (.string (mk (l[k]'h).1)) ∧ wr.cell? ⟨g, o + k * 2 + 1, none⟩ = some (.string (mk (l[k]'h).2)) := by
            rcases HF.out with h | ⟨g, o, e, h⟩
            · subst h; simp at hlt
            · exact ⟨g, o, e, fun k hk => ⟨cell_on HN2.out (h k hk).1, cell_on HN2.out (h k hk).2⟩⟩
          obtain ⟨c0, c1⟩ := hc k hlt
          have e2 : IntKind.i64.wrap ((k : Int) + 1) = (k : Int) + 1 := IntWalk.i64_in _ (by omega)
          have g2 : (k : Int) < (l.length : Int) := by omega
          clear hc
          have hpk := HS.out (l[k]'hlt) (List.getElem_mem hlt)
          have hfs := fill_step HR.out hlt
          obtain ⟨p, hp⟩ : ∃ p, p = l[k]'hlt := ⟨_, rfl⟩
          rw [← hp] at c0 c1 hpk hfs
          obtain ⟨W, hW⟩ : ∃ W, W = wr.alloc (.cells #[.string (mk p.1), .string (mk p.2)] 52) := ⟨_, rfl⟩
          have bW : Below wr.heap.size wr W := by rw [hW]; exact (Below.refl _ wr).alloc (Nat.le_refl _) _
          have dW := (HD.out.below bW)
          have dWd : DK (B + 1) B (l.take k) W.drew := dW.below (Below.refl _ W).drew
          obtain ⟨w1, hu, hown, hturn⟩ := store_run dWd.map (by rw [List.length_take]; omega) (mk p.1) (mk p.2) (by rw [mk_size]; exact hpk.1)
          rw [bs_mk, bs_mk, hfs] at hown
          have mv := Mv.of_turned hturn
          have HD2 := hid_of (show DK (B + 1) B (l.take (k + 1)) w1 from ⟨mv.blk dWd.blk, hown, List.Pairwise.sublist (List.take_sublist _ _) HR.out, fun q hq => HS.out q (List.mem_of_mem_take hq)⟩)
          have HN3 := hid_of (show Below w.heap.size w w1 from mv.below (bel HN2.out (bW.trans (Below.refl _ W).drew) (Nat.le_refl _)) HBW.out (Nat.le_refl _))
          have cB : W.cell? ⟨B + 1, 0, none⟩ = some (.map (some B)) := dW.cell
          have d0 : W.cell? ⟨wr.heap.size, 0, none⟩ = some (.string (mk p.1)) := by rw [hW]; exact Lib.cell_of_heap (heap_alloc_new wr _) 0
          have d1 : W.cell? ⟨wr.heap.size, 1, none⟩ = some (.string (mk p.2)) := by rw [hW]; exact Lib.cell_of_heap (heap_alloc_new wr _) 1
          have f0 := mv.cell (a := ⟨B + 1, 0, none⟩) (v := .map (some B)) cB
          have f1 := mv.cell (a := ⟨wr.heap.size, 0, none⟩) (v := .string (mk p.1)) d0
          have f2 := mv.cell (a := ⟨wr.heap.size, 1, none⟩) (v := .string (mk p.2)) d1
          generalize mk p.1 = X at *
          generalize mk p.2 = Y at *
          have HW := hid_of hW
          have HP := hid_of hp
          clear hW hp hfs hpk dW dWd bW hown hturn mv HD HN2
          go_wp2_with fail
          rw [← HW.out]
          go_region_held3 (fun V => V.cell? ⟨B + 1, 0, none⟩ = some (.map (some B)) ∧ V.cell? ⟨wr.heap.size, 0, none⟩ = some (.string X) ∧ V.cell? ⟨wr.heap.size, 1, none⟩ = some (.string Y)) (first | exact ⟨cB, d0, d1⟩ | exact ⟨f0, f1, f2⟩) (fail)
          go_wp2_with fail
          go_roundg g'
          case measure => omega
          case rel => exact ⟨k + 1, by omega, by omega, by rw [show ((k + 1 : Nat) : Int) = (k : Int) + 1 from by omega], HD2, HN3⟩
        · have gi2 : ¬ (k : Int) < (l.length : Int) := by omega
          have HD2 := hid_of (show DK (B + 1) B l wr from by have := HD.out; rw [List.take_of_length_le (by omega)] at this; exact this)
          clear HD
          go_wp2_with fail
          go_ret2
          exact ⟨B + 1, B, rfl, HD2.out, Nat.le_succ_of_le HBW.out, HBW.out, HN2.out⟩
end Go.Proofs.YtolihcgpnoacaaaDoor.Of
