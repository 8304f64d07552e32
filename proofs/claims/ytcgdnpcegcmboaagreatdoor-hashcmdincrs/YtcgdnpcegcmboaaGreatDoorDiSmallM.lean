/- A dict's small calls: Len, Get, Set, Drop. Of: the names must rise; then a dict of the fields. The document's own Rises. rising: the names that are wanted, in their order. fields, Fields, After. -/
import Derived.Test.YtcgdnpcegcmboaaGreatDoorHLawM
import Derived.Test.YtcgdnpcegcmboaaGreatDoorShelfM
import Derived.Sort.KeysCollected
import Derived.OwnWalk
section
namespace Go.Proofs.YtcgdnpcegcmboaaGreatDoor.DiSmall
open Go.RowKit Go.Maps
open Go.Proofs.YtcgdnpcegcmboaaGreatDoor.DiDictMath
open Go.Proofs.YtcgdnpcegcmboaaGreatDoor.DiBase
set_option linter.unusedVariables false
set_option linter.unusedSimpArgs false

theorem eqlSome (m : Nat) (w : World) : (binOp .eql 186 (.map (some m)) (.map none)).run Tryz.prog w = .ok (.bool false) w := by kernel_rfl
set_option maxRecDepth 100000 in
theorem len_nil (w : World) : Calls Tryz.prog 105 #[.pointer none] w fun e w' => e = .returned (.int .i64 0) ∧ w' = w := by
  go_enter Tryz.func105, Tryz.ntmps105
  go_wp2
  go_ret
  exact ⟨rfl, rfl⟩
set_option maxRecDepth 100000 in
theorem len_call (b m : Nat) (l : FL) (w : World) (h : DK b m l w) : Calls Tryz.prog 105 #[ptr b] w fun e w' => e = .returned (.int .i64 (l.length : Int)) ∧ w' = w := by
  have c0 := h.cell
  have hl := h.map.len Tryz.underlying186
  rw [size_D] at hl
  clear h
  unfold ptr
  go_enter Tryz.func105, Tryz.ntmps105
  go_wp2
  go_ret
  exact ⟨rfl, rfl⟩
set_option maxRecDepth 100000 in
theorem get_nil (s : ByteArray) (w : World) : Calls Tryz.prog 92 #[.pointer none, .string s] w fun e w' => e = .returned (.tuple #[.string ⟨#[]⟩, .bool false]) ∧ w' = w := by
  go_enter Tryz.func92, Tryz.ntmps92
  go_wp2
  go_ret2
  exact ⟨rfl, rfl⟩
set_option maxRecDepth 100000 in
theorem get_call (b m : Nat) (l : FL) (s : ByteArray) (w : World) (h : DK b m l w) (hs : s.size ≤ 140737488355328) : Calls Tryz.prog 92 #[ptr b, .string s] w fun e w' => e = .returned (.tuple #[.string (valS l (bs s)), .bool (ok l (bs s))]) ∧ Below w.heap.size w w' := by
  have c0 := h.cell
  have hl := look_run h.map s hs
  clear h
  unfold ptr
  go_enter Tryz.func92, Tryz.ntmps92
  go_wp2
  go_ret2
  exact ⟨rfl, (Below.refl _ w).alloc (Nat.le_refl _) _⟩
set_option maxRecDepth 100000 in
theorem set_nil (s t : ByteArray) (w : World) : Calls Tryz.prog 139 #[.pointer none, .string s, .string t] w fun e w' => e = .returned (.bool false) ∧ w' = w := by
  go_enter Tryz.func139, Tryz.ntmps139
  go_wp2
  go_ret
  exact ⟨rfl, rfl⟩
set_option maxHeartbeats 1000000 in
set_option maxRecDepth 100000 in
theorem set_call (b m : Nat) (l : FL) (s t : ByteArray) (w : World) (h : DK b m l w) (hs : s.size ≤ 140737488355328) (ht : t.size ≤ 140737488355328) (hn : l.length < 140737488355328) : Calls Tryz.prog 139 #[ptr b, .string s, .string t] w fun e w' => e = .returned (.bool (!ok l (bs s))) ∧ DK b m (withL l (bs s) (bs t)) w' ∧ Mv m w w' := by
  have c0 := h.cell
  have hl := look_run h.map s hs
  have h1 := h.alloc (.cells #[.string (valS l (bs s))] 184)
  obtain ⟨w1, hu, hown, hturn⟩ := store_run h1.map hn s t hs
  have c1 : (w.alloc (.cells #[.string (valS l (bs s))] 184)).cell? ⟨b, 0, none⟩ = some (.map (some m)) := h1.cell
  have b1 : Below w.heap.size w (w.alloc (.cells #[.string (valS l (bs s))] 184)) := (Below.refl _ w).alloc (Nat.le_refl _) _
  have mv := (Mv.of_below b1 (owns_map h.map)).trans (Mv.of_turned hturn)
  have HD := hid_of (show DK b m (withL l (bs s) (bs t)) w1 from ⟨mv.blk h.blk, hown, with_ris h.ris _ _, fun p hp => by
    rcases with_mem hp with rfl | hp
    · rw [len_bs, len_bs]; exact ⟨hs, ht⟩
    · exact h.len p hp⟩)
  have HM := hid_of mv
  have eqs := eqlSome m w
  clear h h1 hown hturn b1 mv
  unfold ptr
  go_enter Tryz.func139, Tryz.ntmps139
  go_wp2
  go_ret
  exact ⟨rfl, HD.out, HM.out⟩
set_option maxRecDepth 100000 in
theorem drop_nil (s : ByteArray) (w : World) : Calls Tryz.prog 88 #[.pointer none, .string s] w fun e w' => e = .returned (.bool false) ∧ w' = w := by
  go_enter Tryz.func88, Tryz.ntmps88
  go_wp2
  go_ret
  exact ⟨rfl, rfl⟩
set_option maxHeartbeats 1000000 in
set_option maxRecDepth 100000 in
theorem drop_call (b m : Nat) (l : FL) (s : ByteArray) (w : World) (h : DK b m l w) (hs : s.size ≤ 140737488355328) : Calls Tryz.prog 88 #[ptr b, .string s] w fun e w' => e = .returned (.bool (ok l (bs s))) ∧ DK b m (wout l (bs s)) w' ∧ Mv m w w' := by
  have c0 := h.cell
  have hl := look_run h.map s hs
  have h1 := h.alloc (.cells #[.string (valS l (bs s))] 184)
  obtain ⟨w1, hu, hown, hturn⟩ := drop_run h1.map s hs 0
  have c1 : (w.alloc (.cells #[.string (valS l (bs s))] 184)).cell? ⟨b, 0, none⟩ = some (.map (some m)) := h1.cell
  have b1 : Below w.heap.size w (w.alloc (.cells #[.string (valS l (bs s))] 184)) := (Below.refl _ w).alloc (Nat.le_refl _) _
  have mv := (Mv.of_below b1 (owns_map h.map)).trans (Mv.of_turned hturn)
  have HD := hid_of (show DK b m (wout l (bs s)) w1 from ⟨mv.blk h.blk, hown, wout_ris h.ris _, fun p hp => h.len p (wout_mem hp)⟩)
  have HM := hid_of mv
  clear h h1 hown hturn b1 mv
  unfold ptr
  go_enter Tryz.func88, Tryz.ntmps88
  go_wp2
  go_ret
  exact ⟨rfl, HD.out, HM.out⟩
end Go.Proofs.YtcgdnpcegcmboaaGreatDoor.DiSmall
end
section
namespace Go.Proofs.YtcgdnpcegcmboaaGreatDoor.DiOf
open Go.RowKit Go.Maps
open Go.Proofs.YtcgdnpcegcmboaaGreatDoor.DiDictMath
open Go.Proofs.YtcgdnpcegcmboaaGreatDoor.DiBase
open Go.Proofs.YtcgdnpcegcmboaaGreatDoor.DiSmall
set_option linter.unusedVariables false
set_option linter.unusedSimpArgs false

theorem ris_adj : ∀ {l : FL}, (∀ i (h : i + 1 < l.length), (l[i]'(Nat.lt_of_succ_lt h)).1 < (l[i + 1]'h).1) → Ris l
  | [], _ => List.Pairwise.nil
  | [a], _ => List.pairwise_singleton _ _
  | a :: b :: r, h => by
    have ih : Ris (b :: r) := ris_adj (fun i hi => h (i + 1) (by simpa using hi))
    have hab : a.1 < b.1 := h 0 (by simp)
    refine List.pairwise_cons.2 ⟨fun p hp => ?_, ih⟩
    rcases List.mem_cons.1 hp with rfl | hp'
    · exact hab
    · exact List.lt_trans hab (ih.head p hp')
theorem adj_ris {l : FL} (h : Ris l) (i : Nat) (hi : i + 1 < l.length) : (l[i]'(Nat.lt_of_succ_lt hi)).1 < (l[i + 1]'hi).1 := List.pairwise_iff_getElem.1 h i (i + 1) (Nat.lt_of_succ_lt hi) hi (Nat.lt_succ_self i)
def Adj (l : FL) (k : Nat) : Prop := ∀ i (h : i + 1 < l.length), i + 1 < k → (l[i]'(Nat.lt_of_succ_lt h)).1 < (l[i + 1]'h).1
theorem adj_more {l : FL} {j : Nat} (h : Adj l (j + 1)) (hj : j + 1 < l.length) (hlt : (l[j]'(Nat.lt_of_succ_lt hj)).1 < (l[j + 1]'hj).1) : Adj l (j + 1 + 1) := fun i hi hk => by
  by_cases e : i = j
  · subst e; exact hlt
  · exact h i hi (by omega)
theorem FS.at {w : World} {a : Option Addr} {n c : Nat} {l : FL} (h : FS w (.slice a n c) l) {k : Nat} (hk : k < l.length) : n = l.length ∧ ∃ g o, a = some ⟨g, o, none⟩ ∧ ∀ k (h : k < l.length), w.cell? ⟨g, o + k * 2, none⟩ = some (.string (mk (l[k]'h).1)) ∧ w.cell? ⟨g, o + k * 2 + 1, none⟩ = some (.string (mk (l[k]'h).2)) := by
  obtain ⟨a', c', e, h⟩ := h
  injection e with e1 e2 e3
  subst e1
  refine ⟨e2, ?_⟩
  rcases h with rfl | h
  · simp at hk
  · exact h
instance (l : FL) : Decidable (Ris l) := inferInstanceAs (Decidable (List.Pairwise _ l))
theorem less_mk (a b : Bs) : Op.bytesLess (mk a).toList (mk b).toList = decide (a < b) := by rw [mk_list, mk_list]; exact bytesLess_eq _ _
structure Fill (l : FL) (B k : Nat) (w : World) : Prop where
  dk : DK B (B - 1) (l.take k) w
theorem take_snoc {l : FL} {k : Nat} (h : k < l.length) : l.take (k + 1) = l.take k ++ [l[k]] := List.take_succ_eq_append_getElem h
theorem fill_step {l : FL} (hr : Ris l) {k : Nat} (h : k < l.length) : withL (l.take k) (l[k]'h).1 (l[k]'h).2 = l.take (k + 1) := by
  rw [take_snoc h]
  refine with_snoc (fun p hp => ?_)
  obtain ⟨i, hi, rfl⟩ := List.getElem_of_mem hp
  rw [List.getElem_take]
  rw [List.length_take] at hi
  exact List.pairwise_iff_getElem.1 hr i k (by omega) h (by omega)
set_option maxHeartbeats 1000000 in
set_option maxRecDepth 100000 in
theorem of_no (v : Value) (l : FL) (w : World) (h : FS w v l) (hl : l.length ≤ 140737488355328) (hr : ¬ Ris l) : Calls Tryz.prog 166 #[v] w fun e w' => e = .returned (.tuple #[.pointer none, .int .i64 100]) ∧ Below w.heap.size w w' := by
  obtain ⟨a, c, rfl, h'⟩ := h
  have HF := hid_of h'
  clear h'
  go_enter Tryz.func166, Tryz.ntmps166
  go_wp2_with fail
  go_loopg [4] l.length (fun g si wx => ∃ K : Nat, 1 ≤ K ∧ K ≤ l.length + 1 ∧ l.length ≤ K + g ∧ si = .int .i64 (K : Int) ∧ Hid (Adj l K) ∧ Hid (Below w.heap.size w wx))
  case atStart => exact ⟨1, by omega, by omega, by omega, rfl, hid_of (fun i hi hk => by omega), hid_of (Below.refl _ _)⟩
  case round =>
    obtain ⟨K, hK1, hK, hg, rfl, HA, HN⟩ := hrel
    by_cases hlt : K < l.length
    · obtain ⟨g', rfl⟩ : ∃ g', gk = g' + 1 := ⟨gk - 1, by omega⟩
      obtain ⟨J, hJ⟩ : ∃ J, K = J + 1 := ⟨K - 1, by omega⟩
      obtain ⟨gb, o, rfl, hc⟩ : ∃ g o, a = some ⟨g, o, none⟩ ∧ ∀ k (h : k < l.length), wr.cell? ⟨g, o + k * 2, none⟩ = some (.string (mk (l[k]'h).1)) ∧ wr.cell? ⟨g, o + k * 2 + 1, none⟩ = some (.string (mk (l[k]'h).2)) := by
        rcases HF.out with h | ⟨g, o, e, h⟩
        · subst h; simp at hlt
        · exact ⟨g, o, e, fun k hk => ⟨cell_on HN.out (h k hk).1, cell_on HN.out (h k hk).2⟩⟩
      have hJl : J < l.length := by omega
      have c0 := (hc J hJl).1
      have c1 := (hc K hlt).1
      have e1 : IntKind.i64.wrap ((K : Int) - 1) = (J : Int) := by rw [show (K : Int) - 1 = (J : Int) from by omega]; exact IntWalk.i64_in _ (by omega)
      have e2 : IntKind.i64.wrap ((K : Int) + 1) = (K : Int) + 1 := IntWalk.i64_in _ (by omega)
      have g1 : (J : Int) < (l.length : Int) := by omega
      have g2 : (K : Int) < (l.length : Int) := by omega
      have hless := less_mk (l[J]'hJl).1 (l[K]'hlt).1
      have HL : Hid ((l[J]'hJl).1 < (l[K]'hlt).1 → Adj l (K + 1)) := hid_of (by subst hJ; exact fun q => adj_more HA.out hlt q)
      have HX : Hid (¬ (l[J]'hJl).1 < (l[K]'hlt).1 → ¬ Ris l) := hid_of (by subst hJ; exact fun q r => q (adj_ris r J hlt))
      clear hc HF
      by_cases hq : (l[J]'hJl).1 < (l[K]'hlt).1
      · rw [decide_eq_true hq] at hless
        have HL2 := hid_of (HL.out hq)
        clear hq HL HX hJ
        generalize mk (l[J]'hJl).1 = X at c0 hless
        generalize mk (l[K]'hlt).1 = Y at c1 hless
        go_wp2_with fail
        go_quiet (fail)
        go_wp2_with fail
        go_roundg g'
        case measure => omega
        case rel => exact ⟨K + 1, by omega, by omega, by omega, by rw [show ((K + 1 : Nat) : Int) = (K : Int) + 1 from by omega], HL2, hid_of (bdrew HN.out nq)⟩
      · rw [decide_eq_false hq] at hless
        have HL2 := hid_of (HX.out hq)
        clear hq HL HX hJ
        generalize mk (l[J]'hJl).1 = X at c0 hless
        generalize mk (l[K]'hlt).1 = Y at c1 hless
        go_wp2_with fail
        go_quiet (fail)
        go_wp2_with fail
        go_ret2
        exact ⟨rfl, bdrew HN.out nq⟩
    · exact absurd (ris_adj (fun i hi => HA.out i hi (by omega))) hr
def OfE (l : FL) (w : World) (e : Ending) (w' : World) : Prop := ∃ b m, e = .returned (.tuple #[ptr b, .int .i64 0]) ∧ DK b m l w' ∧ w.heap.size ≤ b ∧ w.heap.size ≤ m ∧ Below w.heap.size w w'
theorem mk_hint (n : Int) (w : World) : (Instr.makeMap 186 (some (.int .i64 n))).run Tryz.prog w = .ok (.map (some w.heap.size)) (w.alloc (.map #[] 0)) := by kernel_rfl
set_option maxHeartbeats 4000000 in
set_option maxRecDepth 100000 in
theorem of_yes (v : Value) (l : FL) (w : World) (h : FS w v l) (hl : l.length < 140737488355328) (hr : Ris l) (hs : ∀ p ∈ l, p.1.length ≤ 140737488355328 ∧ p.2.length ≤ 140737488355328) : Calls Tryz.prog 166 #[v] w fun e w' => OfE l w e w' := by
  obtain ⟨a, c, rfl, h'⟩ := h
  have HF := hid_of h'
  have HR := hid_of hr
  have HS := hid_of hs
  have hmm := mk_hint
  clear h' hr hs
  go_enter Tryz.func166, Tryz.ntmps166
  go_wp2_with fail
  go_loopg [4] l.length (fun g si wx => ∃ K : Nat, 1 ≤ K ∧ K ≤ l.length + 1 ∧ l.length ≤ K + g ∧ si = .int .i64 (K : Int) ∧ Hid (Below w.heap.size w wx))
  case atStart => exact ⟨1, by omega, by omega, by omega, rfl, hid_of (Below.refl _ _)⟩
  case round =>
    obtain ⟨K, hK1, hK, hg, rfl, HN⟩ := hrel
    by_cases hlt : K < l.length
    · obtain ⟨g', rfl⟩ : ∃ g', gk = g' + 1 := ⟨gk - 1, by omega⟩
      obtain ⟨J, hJ⟩ : ∃ J, K = J + 1 := ⟨K - 1, by omega⟩
      obtain ⟨gb, o, rfl, hc⟩ : ∃ g o, a = some ⟨g, o, none⟩ ∧ ∀ k (h : k < l.length), wr.cell? ⟨g, o + k * 2, none⟩ = some (.string (mk (l[k]'h).1)) ∧ wr.cell? ⟨g, o + k * 2 + 1, none⟩ = some (.string (mk (l[k]'h).2)) := by
        rcases HF.out with h | ⟨g, o, e, h⟩
        · subst h; simp at hlt
        · exact ⟨g, o, e, fun k hk => ⟨cell_on HN.out (h k hk).1, cell_on HN.out (h k hk).2⟩⟩
      have hJl : J < l.length := by omega
      have c0 := (hc J hJl).1
      have c1 := (hc K hlt).1
      have e1 : IntKind.i64.wrap ((K : Int) - 1) = (J : Int) := by rw [show (K : Int) - 1 = (J : Int) from by omega]; exact IntWalk.i64_in _ (by omega)
      have e2 : IntKind.i64.wrap ((K : Int) + 1) = (K : Int) + 1 := IntWalk.i64_in _ (by omega)
      have g1 : (J : Int) < (l.length : Int) := by omega
      have g2 : (K : Int) < (l.length : Int) := by omega
      have hless := less_mk (l[J]'hJl).1 (l[K]'hlt).1
      clear hc
      by_cases hq : (l[J]'hJl).1 < (l[K]'hlt).1
      · rw [decide_eq_true hq] at hless
        clear hq hJ
        generalize mk (l[J]'hJl).1 = X at c0 hless
        generalize mk (l[K]'hlt).1 = Y at c1 hless
        go_wp2_with fail
        go_quiet (fail)
        go_wp2_with fail
        go_roundg g'
        case measure => omega
        case rel => exact ⟨K + 1, by omega, by omega, by omega, by rw [show ((K + 1 : Nat) : Int) = (K : Int) + 1 from by omega], hid_of (bdrew HN.out nq)⟩
      · exact absurd (by subst hJ; exact adj_ris HR.out J hlt) hq
    · have gi : ¬ (K : Int) < (l.length : Int) := by omega
      clear hK hK1 hg hlt
      obtain ⟨B, hB⟩ : ∃ B, B = wr.heap.size := ⟨_, rfl⟩
      have HB := hid_of hB
      have HD0 := hid_of (show DK (B + 1) B (l.take 0) ((wr.alloc (.map #[] 0)).alloc (.cells #[.map (some B)] 188)) from by
        have m1 := World.ownsMap_made wr Tryz.prog 9 RC
        rw [← hB] at m1
        refine ⟨?_, ?_, List.Pairwise.nil, fun p hp => by cases hp⟩
        · have := heap_alloc_new (wr.alloc (.map #[] 0)) (.cells #[.map (some B)] 188)
          rw [show (wr.alloc (.map #[] 0)).heap.size = B + 1 from by rw [hB]; simp] at this
          exact this
        · exact m1.alloc _)
      have HB0 : Hid (Below w.heap.size w ((wr.alloc (.map #[] 0)).alloc (.cells #[.map (some B)] 188))) := hid_of ((HN.out.alloc HN.out.size _).alloc (by have := HN.out.size; simp; omega) _)
      have HBW : Hid (w.heap.size ≤ B) := hid_of (by rw [hB]; exact HN.out.size)
      clear hB
      go_wp2_with fail
      rw [← HB.out]
      go_loopg [33] l.length (fun g si wx => ∃ k : Nat, k ≤ l.length ∧ l.length ≤ k + g ∧ si = .int .i64 (k : Int) ∧ Hid (DK (B + 1) B (l.take k) wx) ∧ Hid (Below w.heap.size w wx))
      case atStart => exact ⟨0, by omega, by omega, rfl, HD0, HB0⟩
      case round =>
        obtain ⟨k, hk, hg, rfl, HD, HN2⟩ := hrel
        by_cases hlt : k < l.length
        · obtain ⟨g', rfl⟩ : ∃ g', gk = g' + 1 := ⟨gk - 1, by omega⟩
          obtain ⟨gb, o, rfl, hc⟩ : ∃ g o, a = some ⟨g, o, none⟩ ∧ ∀ k (h : k < l.length), wr.cell? ⟨g, o + k * 2, none⟩ = some (.string (mk (l[k]'h).1)) ∧ wr.cell? ⟨g, o + k * 2 + 1, none⟩ = some (.string (mk (l[k]'h).2)) := by
            rcases HF.out with h | ⟨g, o, e, h⟩
            · subst h; simp at hlt
            · exact ⟨g, o, e, fun k hk => ⟨cell_on HN2.out (h k hk).1, cell_on HN2.out (h k hk).2⟩⟩
          obtain ⟨c0, c1⟩ := hc k hlt
          have e2 : IntKind.i64.wrap ((k : Int) + 1) = (k : Int) + 1 := IntWalk.i64_in _ (by omega)
          have g2 : (k : Int) < (l.length : Int) := by omega
          clear hc
          have hpk := HS.out (l[k]'hlt) (List.getElem_mem hlt)
          have hfs := fill_step HR.out hlt
          obtain ⟨p, hp⟩ : ∃ p, p = l[k]'hlt := ⟨_, rfl⟩
          rw [← hp] at c0 c1 hpk hfs
          obtain ⟨W, hW⟩ : ∃ W, W = wr.alloc (.cells #[.string (mk p.1), .string (mk p.2)] 50) := ⟨_, rfl⟩
          have bW : Below wr.heap.size wr W := by rw [hW]; exact (Below.refl _ wr).alloc (Nat.le_refl _) _
          have dW := (HD.out.below bW)
          have dWd : DK (B + 1) B (l.take k) W.drew := dW.below (Below.refl _ W).drew
          obtain ⟨w1, hu, hown, hturn⟩ := store_run dWd.map (by rw [List.length_take]; omega) (mk p.1) (mk p.2) (by rw [mk_size]; exact hpk.1)
          rw [bs_mk, bs_mk, hfs] at hown
          have mv := Mv.of_turned hturn
          have HD2 := hid_of (show DK (B + 1) B (l.take (k + 1)) w1 from ⟨mv.blk dWd.blk, hown, List.Pairwise.sublist (List.take_sublist _ _) HR.out, fun q hq => HS.out q (List.mem_of_mem_take hq)⟩)
          have HN3 := hid_of (show Below w.heap.size w w1 from mv.below (bel HN2.out (bW.trans (Below.refl _ W).drew) (Nat.le_refl _)) HBW.out (Nat.le_refl _))
          have cB : W.cell? ⟨B + 1, 0, none⟩ = some (.map (some B)) := dW.cell
          have d0 : W.cell? ⟨wr.heap.size, 0, none⟩ = some (.string (mk p.1)) := by rw [hW]; exact Lib.cell_of_heap (heap_alloc_new wr _) 0
          have d1 : W.cell? ⟨wr.heap.size, 1, none⟩ = some (.string (mk p.2)) := by rw [hW]; exact Lib.cell_of_heap (heap_alloc_new wr _) 1
          have f0 := mv.cell (a := ⟨B + 1, 0, none⟩) (v := .map (some B)) cB
          have f1 := mv.cell (a := ⟨wr.heap.size, 0, none⟩) (v := .string (mk p.1)) d0
          have f2 := mv.cell (a := ⟨wr.heap.size, 1, none⟩) (v := .string (mk p.2)) d1
          generalize mk p.1 = X at *
          generalize mk p.2 = Y at *
          have HW := hid_of hW
          have HP := hid_of hp
          clear hW hp hfs hpk dW dWd bW hown hturn mv HD HN2
          go_wp2_with fail
          rw [← HW.out]
          go_region_held3 (fun V => V.cell? ⟨B + 1, 0, none⟩ = some (.map (some B)) ∧ V.cell? ⟨wr.heap.size, 0, none⟩ = some (.string X) ∧ V.cell? ⟨wr.heap.size, 1, none⟩ = some (.string Y)) (first | exact ⟨cB, d0, d1⟩ | exact ⟨f0, f1, f2⟩) (fail)
          go_wp2_with fail
          go_roundg g'
          case measure => omega
          case rel => exact ⟨k + 1, by omega, by omega, by rw [show ((k + 1 : Nat) : Int) = (k : Int) + 1 from by omega], HD2, HN3⟩
        · have gi2 : ¬ (k : Int) < (l.length : Int) := by omega
          have HD2 := hid_of (show DK (B + 1) B l wr from by have := HD.out; rw [List.take_of_length_le (by omega)] at this; exact this)
          clear HD
          go_wp2_with fail
          go_ret2
          exact ⟨B + 1, B, rfl, HD2.out, Nat.le_succ_of_le HBW.out, HBW.out, HN2.out⟩
end Go.Proofs.YtcgdnpcegcmboaaGreatDoor.DiOf
end
section
namespace Go.Proofs.YtcgdnpcegcmboaaGreatDoor.DiRising
open Go.RowKit Go.Maps Go.Sort
open Go.Proofs.YtcgdnpcegcmboaaGreatDoor.DiDictMath
open Go.Proofs.YtcgdnpcegcmboaaGreatDoor.DiBase
open Go.Proofs.YtcgdnpcegcmboaaGreatDoor.DiSmall
set_option linter.unusedVariables false
set_option linter.unusedSimpArgs false

theorem enc_mk (x : Bs) : encStr x = .string (mk x) := rfl
theorem inv_agg (v : Value) (y : DataW Unit × List MemPlace) (h : RC v = some y) : ∃ c : ByteArray, v = Value.agg #[.string c] := by
  obtain ⟨s, rfl, _⟩ := RC_inv h
  exact ⟨s, rfl⟩
set_option maxRecDepth 100000 in
theorem rising_nil (K : Value) (w : World) : Calls Tryz.prog 170 #[.pointer none, K] w fun e w' => e = .returned (.slice none 0 0) ∧ w' = w := by
  go_enter Tryz.func170, Tryz.ntmps170
  go_wp2
  go_ret
  exact ⟨rfl, rfl⟩
set_option maxRecDepth 100000 in
theorem all_call (x : Bs) (w : World) : Calls Tryz.prog 171 #[encStr x] w fun e w' => e = .returned (.bool true) ∧ w' = w := by
  go_enter Tryz.func171, Tryz.ntmps171
  go_wp2
  go_ret
  exact ⟨rfl, rfl⟩
def RisE (ks : List Bs) (w : World) (e : Ending) (w' : World) : Prop := ∃ v, e = .returned v ∧ w'.ownsRow w.heap.size 9 1 v ks.length (ks.map encStr) ∧ Below w.heap.size w w'
theorem info9 : (Tryz.prog.info? 9).map (fun i => (i.zero, i.size, i.bytes)) = some (some (.string ⟨#[]⟩), 1, 16) := by kernel_rfl
theorem parts_of {t : TypeId} {z : Value} {n m : Nat} (h : (Tryz.prog.info? t).map (fun i => (i.zero, i.size, i.bytes)) = some (some z, n, m)) : ∃ i, Tryz.prog.info? t = some i ∧ i.zero = some z ∧ i.size = n ∧ i.bytes = m := by
  cases e : Tryz.prog.info? t with
  | none => rw [e] at h; cases h
  | some i =>
    rw [e] at h
    simp at h
    exact ⟨i, rfl, h.1, h.2.1, h.2.2⟩
theorem end_perm {l : FL} {P : Bs → Bool} (hr : Ris l) {ss all : List Bs} (hs : ss = all.filter P) (hp : all.Perm (strKeys (toD l))) : ss.mergeSort leB = (keys l).filter P := by
  have h1 : ss.Perm ((keys l).filter P) := by rw [hs, ← keys_D]; exact hp.filter P
  rw [mergeSort_of_perm h1]
  exact sort_keys (List.Pairwise.sublist List.filter_sublist (ris_keys hr))

set_option maxRecDepth 100000 in
set_option maxHeartbeats 4000000 in
theorem rising_all (b m : Nat) (l : FL) (w : World) (h : DK b m l w) (hmax : l.length < 8796093022208) :
    Calls Tryz.prog 170 #[ptr b, .func (.func 171) #[] #[]] w fun e w' => RisE ((keys l).filter (fun _ => true)) w e w' := by
  obtain ⟨i0, hi, hz0, hz1, hz2⟩ := parts_of info9
  have hown := h.map
  have hbl := hown.lt
  have c0 := h.cell
  have HR := hid_of h.ris
  have HSZ := hid_of (size_D l)
  obtain ⟨D0, hD0⟩ : ∃ D0, D0 = toD l := ⟨_, rfl⟩
  have HD := hid_of hD0
  rw [← hD0] at hown HSZ
  clear hD0 h
  unfold ptr
  go_enter Tryz.func170, Tryz.ntmps170
  go_wp2_with (first
    | (at_range; refine wpList_range_own _ rfl _ 186 rfl 9 184 law9 Tryz.underlying186 _ m l.length _ rfl hown ?_; intro w0 hrg0 hg0 hs0)
    | go_in)
  go_frame
  go_loopw [5] (fun v wr => ∃ (left : Lit → Bool) (cnt : Nat) (ss all : List (List UInt8)), wr.ranges Tryz.prog 9 RC m w.heap.size l.length D0 left cnt ∧ ss.length + cnt ≤ Maps.size D0 ∧
      wr.ownsRow w.heap.size 9 1 v ss.length (ss.map encStr) ∧ Hid (ss = all.filter (fun _ => true)) ∧ Collected D0 left all ∧ Below w.heap.size w wr)
    (fun _ wr => wr.rangeLeft m w.heap.size)
  case atStart =>
    exact ⟨_, _, [], [], hrg0, by simp, World.ownsRow_nil _ _ _ _, hid_of rfl, Collected.start D0, (Below.refl _ _).grown hg0 (Nat.le_refl _) (fun j hj => by cases hj)⟩
  case round =>
    obtain ⟨left, cnt, ss, all, hrg, hcs0, hrow, HSS, hC, hnx⟩ := hrel
    have hcs : ss.length + cnt ≤ l.length := by rw [HSZ.out] at hcs0; exact hcs0
    clear hcs0
    go_wp2_with (first
      | (at_next; refine wpList_next_ranges _ rfl _ rfl 9 law9 RC encStr (fun c : ByteArray => Value.agg #[.string c]) (fun key kl hk => by obtain ⟨x, hx, _⟩ := Maps.keyOf_str Tryz.underlying9 hk; exact ⟨x, hx⟩) inv_agg m w.heap.size l.length _ _ _ rfl hrg ?_ ?_)
      | go_in)
    · intro hcn hl0
      have HP := hid_of (end_perm HR.out HSS.out (by have := hC.perm hown law9 Tryz.underlying9 hl0; rw [HD.out] at this; exact this))
      rcases hrow.2 with ⟨rfl, h0⟩ | ⟨g, cap, cur, rfl, hbase, hb, h1, h2, h3, h4⟩
      · have hc := Tryz.slices_Sort_string_none none 0 wr
        have hss : ss = [] := List.length_eq_zero_iff.1 h0
        subst hss
        clear hrow h0
        go_wp2_with (go_at_call 70; refine hc.mono ?_; rintro e w' ⟨rfl, rfl⟩)
        go_ret
        refine ⟨.slice none 0 0, rfl, ?_, hnx⟩
        rw [← HP.out, List.mergeSort_nil]
        exact World.ownsRow_nil _ _ _ _
      · have hH : Holds encStr wr g 0 ss.toArray := holds_of_block hb (by simpa using h4)
        have hgl : g < wr.heap.size := (Array.getElem?_eq_some_iff.1 hb).1
        have hc := Tryz.slices_Sort_string g 0 cap ss wr hH hgl (by omega)
        go_wp2_with (go_at_call 70; refine hc.mono ?_; rintro e w' ⟨rfl, nn, os, rfl⟩)
        go_ret
        refine ⟨.slice (some ⟨g, 0, none⟩) ss.length cap, rfl, ?_, hnx.grown (grownBy_sorted _) hnx.size (fun j hj => by cases hj; exact hbase)⟩
        have e1 : ss.mergeSort (fun x y => decide (x ≤ y)) = (keys l).filter (fun _ => true) := HP.out
        have e2 : ((keys l).filter (fun _ => true)).length = ss.length := by rw [← e1, List.length_mergeSort]
        rw [e2, ← e1]
        exact ownsRow_sorted (by simp) hbase hb h1 h2 h3
    · intro x c kl yd yp w2 cnt2 hkey hlk hv hat hrg2 hlt hg2 hs2 hen
      obtain ⟨x', ex, rfl, _⟩ := Maps.keyOf_str Tryz.underlying9 hkey
      obtain rfl : x = x' := encStr_inj ex
      have hrow2 := hrow.kept hg2 (Or.inr (row_ne_iter hrow hrg).symm)
      clear hs2
      have hnx2 := hnx.grown hg2 hnx.size (fun j hj => by cases hj; exact Nat.le_refl _)
      have HC := hid_of (all_call x w2)
      have HS2 : Hid (ss ++ [x] = (all ++ [x]).filter (fun _ => true)) := by show _ = _; rw [List.filter_append, ← HSS.out]; rfl
      go_wp2_with fail
      refine HC.out.mono ?_
      rintro e w3 hw3
      obtain ⟨rfl, rfl⟩ := hw3
      go_wp2_with (first
        | (at_builtin; refine wpList_append_own _ rfl _ _ 22 rfl w.heap.size 9 i0 (.string ⟨#[]⟩) 1 16 Tryz.underlying22 hi hz0 hz1 hz2 rfl (by decide) _ _ _ rfl (hrow2.alloc _) ⟨w3.heap.size, 0, none⟩ 1 1 [encStr x] rfl rfl (cell_one_new _ _ _) (by simp [Value.oneCell', encStr]) (by unfold maxLen at *; omega) (by omega) (by have := hnx2.size; simp; omega) ?_; intro v' w4 hown' hg4 hnil4; go_frame)
        | go_in)
      have hrg4 := (hrg2.alloc _).kept hg4 (row_ne_low hrow2 hbl) (row_ne_iter hrow2 hrg2)
      go_roundw
      case rel => exact ⟨_, cnt2, ss ++ [x], all ++ [x], hrg4, by rw [HSZ.out]; simp; omega, by simpa using hown', HS2, hC.step hlk hat, (hnx2.alloc hnx2.size _).grown hg4 (by have := hnx2.size; simp; omega) (fun j hj => (hrow2.lt j hj).1)⟩
      case measure => rw [hrg4.left_eq, hrg.left_eq]; exact hlt

end Go.Proofs.YtcgdnpcegcmboaaGreatDoor.DiRising
end
section
namespace Go.Proofs.YtcgdnpcegcmboaaGreatDoor.DiFields
open Go.RowKit Go.Maps Go.Sort
open Go.Proofs.YtcgdnpcegcmboaaGreatDoor.DiDictMath
open Go.Proofs.YtcgdnpcegcmboaaGreatDoor.DiBase
open Go.Proofs.YtcgdnpcegcmboaaGreatDoor.DiSmall
open Go.Proofs.YtcgdnpcegcmboaaGreatDoor.DiRising
set_option linter.unusedVariables false
set_option linter.unusedSimpArgs false

def NM (w : World) (v : Value) (ks : List Bs) : Prop := ∃ a c, v = .slice a ks.length c ∧ ks.length ≤ c ∧ (ks = [] ∨ ∃ g o, a = some ⟨g, o, none⟩ ∧ ∀ k (h : k < ks.length), w.cell? ⟨g, o + k, none⟩ = some (.string (mk (ks[k]'h))))
theorem nm_row {B : Nat} {w : World} {v : Value} {ks : List Bs} (h : w.ownsRow B 9 1 v ks.length (ks.map encStr)) : NM w v ks := by
  rcases h.2 with ⟨rfl, h0⟩ | ⟨g, cap, cur, rfl, hb, hg, q1, q2, q3, q4⟩
  · have : ks = [] := List.length_eq_zero_iff.1 h0
    subst this
    exact ⟨none, 0, rfl, Nat.le_refl _, Or.inl rfl⟩
  · refine ⟨_, cap, rfl, q1, Or.inr ⟨g, 0, rfl, fun k hk => ?_⟩⟩
    have c0 := h.cellAt k (by omega)
    rw [Nat.zero_add, c0]
    simp [hk, enc_mk]
theorem NM.below {w w' : World} {v : Value} {ks : List Bs} (h : NM w v ks) (hb : Below w.heap.size w w') : NM w' v ks := by
  obtain ⟨a, c, rfl, hc, h⟩ := h
  refine ⟨a, c, rfl, hc, h.imp id ?_⟩
  rintro ⟨g, o, e, hq⟩
  exact ⟨g, o, e, fun k hk => cell_on hb (hq k hk)⟩
def withVals (l : FL) (ks : List Bs) : FL := ks.map fun k => (k, (lkp l k).getD [])
theorem vals_sub {l r : FL} (hr : Ris l) (h : ∀ p ∈ r, p ∈ l) : withVals l (keys r) = r := by
  unfold withVals keys
  rw [List.map_map]
  have : ∀ p ∈ r, ((fun k => (k, (lkp l k).getD [])) ∘ fun x : Bs × Bs => x.1) p = p := fun p hp => by
    show (p.1, (lkp l p.1).getD []) = p
    rw [lkp_at hr p (h p hp)]
    rfl
  rw [List.map_congr_left this]
  simp
/- a row that is being filled -/
structure RW (g n k : Nat) (xs : FL) (w : World) : Prop where
  blk : ∃ cur : Array Value, w.heap[g]? = some (.cells cur 50 (0, 0)) ∧ cur.size = n * 2 ∧ ∀ j, j < k * 2 → cur[j]? = (xs.flatMap fCells)[j]?
theorem set_at {w : World} {b i : Nat} {cs : Array Value} {ty : TypeId} {fz : Nat × Nat} (h : w.heap[b]? = some (.cells cs ty fz)) (v : Value) : (w.setCell ⟨b, i, none⟩ v).heap[b]? = some (.cells (cs.setIfInBounds i v) ty fz) := by
  have e2 : (w.setCell ⟨b, i, none⟩ v).heap[b]? = (w.heap[b]?).map (fun | .cells c elem frozen => .cells (if (none : Option Nat).isSome then c else c.setIfInBounds i v) elem frozen | o => o) := by
    show (w.heap.modify b _)[b]? = _
    rw [Array.getElem?_modify, if_pos rfl]
    rfl
  rw [e2, h]; rfl
theorem rw_step {g n k : Nat} {xs : FL} {w : World} (h : RW g n k xs w) (hk : k < n) (hx : k < xs.length) : RW g n (k + 1) xs ((w.setCell ⟨g, k * 2, none⟩ (.string (mk (xs[k]'hx).1))).setCell ⟨g, k * 2 + 1, none⟩ (.string (mk (xs[k]'hx).2))) := by
  obtain ⟨cur, h1, h2, h3⟩ := h.blk
  refine ⟨⟨_, set_at (set_at h1 _) _, by simp [h2], fun j hj => ?_⟩⟩
  obtain ⟨d0, d1⟩ := fflat_at xs k hx
  rw [Array.getElem?_setIfInBounds, Array.getElem?_setIfInBounds]
  by_cases e1 : k * 2 + 1 = j
  · rw [if_pos e1, if_pos (by simp [h2]; omega), ← e1, d1]
  · rw [if_neg e1]
    by_cases e0 : k * 2 = j
    · rw [if_pos e0, if_pos (by omega), ← e0, d0]
    · rw [if_neg e0]
      exact h3 j (by omega)
theorem RW.cell {g n k : Nat} {xs : FL} {w : World} (h : RW g n k xs w) (j : Nat) (hj : j < n * 2) : (∃ v, w.cell? ⟨g, j, none⟩ = some v) ∧ w.frozen? ⟨g, j, none⟩ = false := by
  obtain ⟨cur, h1, h2, h3⟩ := h.blk
  refine ⟨⟨cur[j]'(by omega), ?_⟩, Lib.frozen_of_heap h1 j⟩
  rw [Lib.cell_of_heap h1 j]
  exact Array.getElem?_eq_getElem (by omega)
theorem RW.own {B g n : Nat} {xs : FL} {w : World} (h : RW g n n xs w) (hB : B ≤ g) (hn : n ≤ maxLen) (hx : xs.length = n) : w.ownsRow B 50 2 (.slice (some ⟨g, 0, none⟩) n n) n (xs.flatMap fCells) := by
  obtain ⟨cur, h1, h2, h3⟩ := h.blk
  refine ⟨by rw [fflat_len, hx], Or.inr ⟨g, n, cur, rfl, hB, h1, Nat.le_refl _, hn, h2, ?_⟩⟩
  apply List.ext_getElem?
  intro j
  by_cases hj : j < n * 2
  · rw [List.getElem?_take, if_pos hj, ← h3 j hj]
    simp
  · rw [List.getElem?_eq_none (by simp [h2]; omega), List.getElem?_eq_none (by rw [fflat_len, hx]; omega)]
theorem info52 : (Tryz.prog.info? 50).map (fun i => (i.zero, i.size, i.bytes)) = some (some (.agg #[.string ⟨#[]⟩, .string ⟨#[]⟩]), 2, 32) := by kernel_rfl
def FldE (xs : FL) (w : World) (e : Ending) (w' : World) : Prop := ∃ v, e = .returned v ∧ w'.ownsRow w.heap.size 50 2 v xs.length (xs.flatMap fCells) ∧ Below w.heap.size w w'
set_option maxRecDepth 100000 in
theorem look0_run {w : World} {b n : Nat} {l : FL} (h : w.ownsMap Tryz.prog 9 RC b n (toD l)) (s : ByteArray) (hs : s.size ≤ 140737488355328) :
    (Instr.lookup 186 (.map (some b)) (.string s) false).run Tryz.prog w = .ok (.agg #[.string (valS l (bs s))]) w := by
  obtain ⟨v, ps, hrun, hv⟩ := h.lookup law9 Tryz.underlying186 (zero63 w) (zd := .lit (.string [])) (zp := []) rfl (key9 s hs)
  rw [hrun]
  rw [at_D] at hv
  obtain ⟨s', rfl, e⟩ := RC_inv hv
  have e2 : (lkp l (bs s)).getD [] = bs s' := by injection e with e; injection e
  unfold valS
  rw [e2, mk_bs]
set_option maxHeartbeats 4000000 in
set_option maxRecDepth 100000 in
theorem fields_nil (w : World) (p : Value) (a : Option Addr) (c : Nat) : Calls Tryz.prog 169 #[p, .slice a 0 c] w fun e w' => FldE [] w e w' := by
  obtain ⟨i0, hi, hz0, hz1, hz2⟩ := parts_of info52
  go_enter Tryz.func169, Tryz.ntmps169
  go_wp2_with (at_make; refine wpList_make_full _ rfl _ _ 43 rfl w.heap.size 50 i0 (.agg #[.string ⟨#[]⟩, .string ⟨#[]⟩]) 2 Tryz.underlying43 hi hz0 hz1 _ _ _ _ 0 rfl rfl rfl rfl ?b2 ?b3 (Nat.le_refl _) ?_)
  case b2 => rw [hz2]; omega
  case b3 => unfold maxLen; omega
  intro w0 hown0 hgrow0
  have hb0 : Below w.heap.size w w0 := (Below.refl _ _).grown hgrow0 (Nat.le_refl _) (fun k h => by cases h)
  have HO := hid_of hown0
  clear hown0 hgrow0
  go_wp2_with fail
  go_loopg [13] 0 (fun g si wx => si = .int .i64 0 ∧ wx = w0)
  case atStart => exact ⟨rfl, rfl⟩
  case round =>
    obtain ⟨rfl, hwx⟩ := hrel
    rw [hwx]
    clear hwx
    go_wp2_with fail
    go_ret
    refine ⟨.slice (some ⟨w.heap.size, 0, none⟩) 0 0, rfl, ?_, hb0⟩
    have h := HO.out
    rw [List.length_eq_zero_iff.1 h.1] at h
    exact h
theorem field63 (Y : ByteArray) (w : World) : (Instr.field 184 (.agg #[.string Y]) 0).run Tryz.prog w = .ok (.string Y) w := by kernel_rfl
set_option maxHeartbeats 4000000 in
set_option maxRecDepth 100000 in
theorem fields_call (b m : Nat) (l : FL) (v : Value) (ks : List Bs) (w : World) (h : DK b m l w) (hv : NM w v ks) (hn : ks.length ≤ 8796093022208) (hs : ∀ k ∈ ks, k.length ≤ 140737488355328) : Calls Tryz.prog 169 #[ptr b, v] w fun e w' => FldE (withVals l ks) w e w' := by
  obtain ⟨i0, hi, hz0, hz1, hz2⟩ := parts_of info52
  obtain ⟨a, c, rfl, hc, hv⟩ := hv
  have HV := hid_of hv
  have HD := hid_of h
  have HS := hid_of hs
  have HX := hid_of (show (withVals l ks).length = ks.length from by unfold withVals; simp)
  clear h hv hs
  unfold ptr
  go_enter Tryz.func169, Tryz.ntmps169
  go_wp2_with (at_make; refine wpList_make_full _ rfl _ _ 43 rfl w.heap.size 50 i0 (.agg #[.string ⟨#[]⟩, .string ⟨#[]⟩]) 2 Tryz.underlying43 hi hz0 hz1 _ _ _ _ ks.length rfl rfl rfl rfl ?b2 ?b3 (Nat.le_refl _) ?_)
  case b2 => rw [hz2]; omega
  case b3 => unfold maxLen; omega
  intro w0 hown0 hgrow0
  have HB0 : Hid (Below w.heap.size w w0) := hid_of ((Below.refl _ _).grown hgrow0 (Nat.le_refl _) (fun k h => by cases h))
  have HR0 : Hid (RW w.heap.size ks.length 0 (withVals l ks) w0) := hid_of (by
    rcases hown0.2 with ⟨e, _⟩ | ⟨g, cap, cur, e, hb, hg, q1, q2, q3, q4⟩
    · cases e
    · injection e with e1 e2 e3
      injection e1 with e1
      injection e1 with e1
      subst e1 e3
      exact ⟨⟨cur, hg, q3, fun j hj => by omega⟩⟩)
  clear hown0 hgrow0
  go_wp2_with fail
  obtain ⟨G, hG⟩ : ∃ G, G = w.heap.size := ⟨_, rfl⟩
  rw [← hG] at HB0 HR0
  rw [← hG]
  have HG := hid_of hG
  clear hG
  go_loopg [13] ks.length (fun g si wx => ∃ k : Nat, k ≤ ks.length ∧ ks.length ≤ k + g ∧ si = .int .i64 (k : Int) ∧ Hid (RW G ks.length k (withVals l ks) wx) ∧ Hid (Below G w wx))
  case atStart => exact ⟨0, by omega, by omega, rfl, HR0, HB0⟩
  case round =>
    obtain ⟨k, hk, hg, rfl, HR, HN⟩ := hrel
    by_cases hlt : k < ks.length
    · obtain ⟨g', rfl⟩ : ∃ g', gk = g' + 1 := ⟨gk - 1, by omega⟩
      have bW : Below w.heap.size w wr := by rw [← HG.out]; exact HN.out
      obtain ⟨gb, o, rfl, hc⟩ : ∃ g o, a = some ⟨g, o, none⟩ ∧ ∀ k (h : k < ks.length), wr.cell? ⟨g, o + k, none⟩ = some (.string (mk (ks[k]'h))) := by
        rcases HV.out with h | ⟨g, o, e, h⟩
        · subst h; simp at hlt
        · exact ⟨g, o, e, fun k hk => cell_on bW (h k hk)⟩
      have c0 := hc k hlt
      have dW := HD.out.below bW
      have cB : wr.cell? ⟨b, 0, none⟩ = some (.map (some m)) := dW.cell
      have hlook := look0_run dW.map (mk (ks[k]'hlt)) (by rw [mk_size]; exact HS.out _ (List.getElem_mem hlt))
      have e2 : IntKind.i64.wrap ((k : Int) + 1) = (k : Int) + 1 := IntWalk.i64_in _ (by omega)
      have g2 : (k : Int) < (ks.length : Int) := by omega
      obtain ⟨⟨v0, r0⟩, z0⟩ := HR.out.cell (k * 2) (by omega)
      obtain ⟨⟨v1, r1⟩, z1⟩ := HR.out.cell (k * 2 + 1) (by omega)
      have hstep := rw_step HR.out hlt (by rw [HX.out]; exact hlt)
      have ek : (withVals l ks)[k]'(by rw [HX.out]; exact hlt) = (ks[k]'hlt, (lkp l (ks[k]'hlt)).getD []) := by simp [withVals]
      rw [ek] at hstep
      unfold valS at hlook
      rw [bs_mk] at hlook
      dsimp only at hstep
      have HST := hid_of hstep
      clear hstep ek dW hc bW
      generalize mk (ks[k]'hlt) = X at *
      generalize mk ((lkp l (ks[k]'hlt)).getD []) = Y at *
      have hfld := field63 Y wr
      go_wp2_with fail
      go_roundg g'
      case measure => omega
      case rel => exact ⟨k + 1, by omega, by omega, by rw [show ((k + 1 : Nat) : Int) = (k : Int) + 1 from by omega], HST, hid_of ((HN.out.setCell (Nat.le_refl _) _).setCell (Nat.le_refl _) _)⟩
    · obtain rfl : k = ks.length := by omega
      have gi : ¬ (ks.length : Int) < (ks.length : Int) := by omega
      go_wp2_with fail
      go_ret
      refine ⟨_, rfl, ?_, by have := HN.out; rw [HG.out] at this; exact this⟩
      rw [HX.out]
      exact HR.out.own (by rw [HG.out]; exact Nat.le_refl _) (by unfold maxLen; omega) HX.out

theorem filter_true (l : List Bs) : l.filter (fun _ => true) = l := List.filter_eq_self.2 fun _ _ => rfl
theorem keys_beh (l : FL) (k : Bs) : (keys l).filter (fun x => decide (k < x)) = keys (beh l k) := by
  unfold keys beh
  rw [List.filter_map]
  rfl
theorem DK.klen {b m : Nat} {l : FL} {w : World} (h : DK b m l w) {r : FL} (hr : ∀ p ∈ r, p ∈ l) : ∀ k ∈ keys r, k.length ≤ 140737488355328 := fun k hk => by
  obtain ⟨p, hp, rfl⟩ := List.mem_map.1 hk
  exact (h.len p (hr p hp)).1
theorem row_mono {w : World} {B B' e sz n : Nat} {v : Value} {xs : List Value} (h : w.ownsRow B e sz v n xs) (hB : B' ≤ B) : w.ownsRow B' e sz v n xs := by
  refine ⟨h.1, h.2.imp id ?_⟩
  rintro ⟨g, cap, cur, rfl, hb, rest⟩
  exact ⟨g, cap, cur, rfl, Nat.le_trans hB hb, rest⟩
theorem fld_later {xs : FL} {w w1 : World} (h : Below w.heap.size w w1) {e : Ending} {w' : World} (hf : FldE xs w1 e w') : FldE xs w e w' := by
  obtain ⟨v, he, ho, hb⟩ := hf
  exact ⟨v, he, row_mono ho h.size, bel h hb (Nat.le_refl _)⟩
set_option maxHeartbeats 1000000 in
set_option maxRecDepth 100000 in
theorem all_fields (b m : Nat) (l : FL) (w : World) (h : DK b m l w) (hn : l.length < 8796093022208) : Calls Tryz.prog 133 #[ptr b] w fun e w' => FldE l w e w' := by
  have H1 := hid_of (rising_all b m l w h hn)
  rw [filter_true] at H1
  have H2 : Hid (∀ v w1, NM w1 v (keys l) → DK b m l w1 → Calls Tryz.prog 169 #[ptr b, v] w1 fun e w' => FldE l w1 e w') := hid_of fun v w1 hv hd => by
    have := fields_call b m l v (keys l) w1 hd hv (by unfold keys; simp; omega) (DK.klen hd (fun p hp => hp))
    rw [vals_sub hd.ris (fun p hp => hp)] at this
    exact this
  have HD := hid_of h
  clear h
  unfold ptr at *
  go_enter Tryz.func133, Tryz.ntmps133
  go_wp2_with fail
  refine H1.out.mono ?_
  rintro e w1 ⟨v, rfl, ho, hb⟩
  have H3 := hid_of (H2.out v w1 (nm_row ho) (HD.out.below hb))
  have HB := hid_of hb
  clear ho hb H1 H2
  go_wp2_with fail
  refine H3.out.mono ?_
  rintro e w2 hf
  have HF := hid_of hf
  obtain ⟨v2, rfl, _, _⟩ := hf
  go_wp2_with fail
  go_ret
  exact fld_later HB.out HF.out
set_option maxHeartbeats 1000000 in
set_option maxRecDepth 100000 in
theorem all_fields_nil (w : World) : Calls Tryz.prog 133 #[.pointer none] w fun e w' => FldE [] w e w' := by
  have H1 := hid_of (rising_nil (.func (.func 171) #[] #[]) w)
  have H2 := hid_of (fields_nil w (.pointer none) none 0)
  go_enter Tryz.func133, Tryz.ntmps133
  go_wp2_with fail
  refine H1.out.mono ?_
  rintro e w1 hw1
  obtain ⟨rfl, rfl⟩ := hw1
  go_wp2_with fail
  refine H2.out.mono ?_
  rintro e w2 hf
  have HF := hid_of hf
  obtain ⟨v2, rfl, _, _⟩ := hf
  go_wp2_with fail
  go_ret
  exact HF.out
theorem NM.cut {w : World} {a : Option Addr} {n c : Nat} {ks : List Bs} (h : NM w (.slice a n c) ks) (j : Nat) (hj : j ≤ n) : NM w (.slice a j c) (ks.take j) := by
  obtain ⟨a', c', e, hc, h⟩ := h
  injection e with e1 e2 e3
  subst e1 e2 e3
  refine ⟨_, _, by rw [List.length_take, Nat.min_eq_left hj], by rw [List.length_take]; omega, ?_⟩
  rcases h with rfl | ⟨g, o, rfl, h⟩
  · exact Or.inl (by simp)
  · refine Or.inr ⟨g, o, rfl, fun k hk => ?_⟩
    rw [List.getElem_take]
    exact h k (by rw [List.length_take] at hk; omega)
theorem cut_hi (a : Option Addr) (n c j : Nat) (y : Int) (hy : y = j) (hj : j ≤ c) (w : World) : (Instr.slice 22 (.slice a n c) none (some (.int .i64 y)) none).run Tryz.prog w = .ok (.slice a j c) w := by
  subst hy
  have h2 : (j : Int) ≤ c := by omega
  have h0 : (if c = 0 then a else a.map (·.add 0)) = a := by
    by_cases h : c = 0
    · rw [if_pos h]
    · rw [if_neg h]
      cases a with
      | none => rfl
      | some a => simp [Addr.add]
  simp [Instr.slice, run_underlying Tryz.underlying22, Instr.sliceBounds, run_sliceBound, h2, h0]
end Go.Proofs.YtcgdnpcegcmboaaGreatDoor.DiFields
end
