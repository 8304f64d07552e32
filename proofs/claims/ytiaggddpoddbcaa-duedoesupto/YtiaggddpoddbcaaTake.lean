/- Take of an index over texts. -/
import Derived.Test.YtiaggddpoddbcaaPeekS
import Derived.Deep.LoopGhost
namespace Go.Proofs.Ytiaggddpoddbcaa.Take
open Go.RowKit Go.Maps Go.Shelf
open Go.Proofs.Ytiaggddpoddbcaa.HeapMath
open Go.Proofs.Ytiaggddpoddbcaa.Heap
open Go.Proofs.Ytiaggddpoddbcaa.Turn
open Go.Proofs.Ytiaggddpoddbcaa.Before
open Go.Proofs.Ytiaggddpoddbcaa.RowB
open Go.Proofs.Ytiaggddpoddbcaa.IndexS
open Go.Proofs.Ytiaggddpoddbcaa.ThingS
open Go.Proofs.Ytiaggddpoddbcaa.Peek
open Go.Proofs.Ytiaggddpoddbcaa.PeekS
open Go.Proofs.Ytiaggddpoddbcaa.Spots
set_option linter.unusedVariables false
set_option linter.unusedSimpArgs false
theorem ix_below {base b : Nat} {s : Es} {w w' : World} (h : IX base b w s) (hb : Below w.heap.size w w') : IX base b w' s := by
  obtain ⟨l, hr, hh, hp⟩ := h
  exact ⟨l, ⟨RS.below hr.1 hb, hr.2⟩, hh, hp⟩
theorem ix_perm {base b : Nat} {s s' : Es} {w : World} (h : IX base b w s) (hp : s.Perm s') : IX base b w s' := by
  obtain ⟨l, hr, hh, h2⟩ := h
  exact ⟨l, hr, hh, h2.trans hp⟩
/- an entry is known by its key -/
theorem ix_key {base b : Nat} {s : Es} {w : World} (h : IX base b w s) {x y : Bs × Int} (hx : x ∈ s) (hy : y ∈ s) (e : x.1 = y.1) : x = y := by
  obtain ⟨l, hr, hh, hp⟩ := h
  obtain ⟨ev, mv, h'⟩ := hr.1
  obtain ⟨i, hi, e1⟩ := List.getElem_of_mem (hp.mem_iff.2 hx)
  obtain ⟨j, hj, e2⟩ := List.getElem_of_mem (hp.mem_iff.2 hy)
  have := h'.keys i j hi hj (by rw [pl_in hi, pl_in hj, e1, e2]; exact e)
  subst this
  rw [← e1, ← e2]
theorem ix_wide {base b : Nat} {s : Es} {w : World} (h : IX base b w s) {x : Bs × Int} (hx : x ∈ s) : x.1.length ≤ 281474976710656 := by
  obtain ⟨l, hr, hh, hp⟩ := h
  obtain ⟨ev, mv, h'⟩ := hr.1
  exact h'.wide x (hp.mem_iff.2 hx)
theorem got_pre (S : Es) (now most : Int) : got S now most <+: S := (List.take_prefix _ _).trans (List.takeWhile_prefix _)
theorem k_get (ks : List Bs) (i : Nat) (h : i < ks.length) : (ks.map sv)[i]? = some (sv ks[i]) := by simp [h]
theorem krow {B : Nat} {w : World} {v : Value} {ks : List Bs} (h : w.ownsRow B 9 1 v ks.length (ks.map sv)) (h0 : 0 < ks.length) : ∃ q c, v = .slice (some ⟨q, 0, none⟩) ks.length c ∧ (∃ cur, w.heap[q]? = some (.cells cur 9 (0, 0))) ∧ (∀ i (hi : i < ks.length), w.cell? ⟨q, i, none⟩ = some (sv ks[i])) := by
  have h' := h
  rcases h.2 with ⟨rfl, hn⟩ | ⟨q, cap, cur, rfl, hb, hq, r1, _⟩
  · omega
  · refine ⟨q, cap, rfl, ⟨cur, hq⟩, fun i hi => ?_⟩
    have c1 := h'.cells (g := q) rfl i _ (k_get ks i hi)
    simp only [Addr.add, Nat.zero_add] at c1
    have e0 : (if i = 0 then (⟨q, 0, none⟩ : Addr) else ⟨q, i, none⟩) = ⟨q, i, none⟩ := by split <;> simp_all
    simpa [e0] using c1
theorem kshape {B : Nat} {w : World} {v : Value} {n : Nat} {xs : List Value} (h : w.ownsRow B 9 1 v n xs) : ∃ a c, v = .slice a n c := by
  rcases h.2 with ⟨rfl, hn⟩ | ⟨q, cap, cur, rfl, _⟩
  · exact ⟨none, 0, by rw [hn]⟩
  · exact ⟨_, _, rfl⟩
theorem row_ev {B base n : Nat} {w w' : World} {v : Value} {xs : List Value} (h : w.ownsRow B 9 1 v n xs) (he : Ev DT base w w') : w'.ownsRow B 9 1 v n xs := by
  refine ⟨h.1, h.2.imp id ?_⟩
  rintro ⟨g', cap, cur, e', hb, hg', r⟩
  exact ⟨g', cap, cur, e', hb, (he.block g' (lt_of hg') (.inr (by rw [kd_cells hg']; rfl))).trans hg', r⟩
theorem key_at {R S : Es} (hp : R <+: S) (k : Nat) (hk : k < R.length) (hkl : k < (keysOf R).length) (hkS : k < S.length) : (keysOf R)[k] = S[k].1 := by
  obtain ⟨r, rfl⟩ := hp
  rw [List.getElem_append_left hk]
  exact List.getElem_map _
theorem mem_at {S : Es} {k : Nat} (hkS : k < S.length) : S[k] ∈ S.drop k := by
  rw [List.drop_eq_getElem_cons hkS]
  exact List.mem_cons_self
theorem drop_next {S s' : Es} {k : Nat} (hkS : k < S.length) {x : Bs × Int} (hx : x = S[k]) (hp : (s' ++ [x]).Perm (S.drop k)) : s'.Perm (S.drop (k + 1)) := by
  rw [List.drop_eq_getElem_cons hkS, hx] at hp
  exact ((List.perm_append_comm (l₁ := [S[k]]) (l₂ := s')).trans hp).cons_inv
set_option maxHeartbeats 2000000 in
set_option maxRecDepth 100000 in
theorem take_call {base b : Nat} {s S : Es} {w : World} (h : IX base b w s) (hS : Sorted ltS s S) (hlen : s.length + 1 < 1099511627776) (now most : Int) :
    Calls Try.prog 23 #[ptr b, .int .i64 now, .int .i64 most] w fun e w' => ∃ v, e = .returned v ∧ w'.ownsRow w.heap.size 9 1 v (got S now most).length ((keysOf (got S now most)).map sv) ∧ IX base b w' (S.drop (got S now most).length) ∧ Ev DT base w w' := by
  have HP := hid_of (peek_call h hS hlen now most)
  obtain ⟨R, hR⟩ : ∃ R, R = got S now most := ⟨_, rfl⟩
  have hpre : R <+: S := by rw [hR]; exact got_pre S now most
  rw [← hR] at HP
  rw [← hR]
  have hRl : R.length < 1099511627776 := by have := hpre.length_le; have := hS.perm.length_eq; omega
  have HH := hid_of (And.intro h (And.intro hS hpre))
  clear h hS hR hpre hlen
  unfold ptr at *
  go_enter Try.func23, Try.ntmps23
  go_wp2_with fail
  refine HP.out.mono ?_
  rintro e w1 ⟨v, rfl, ho, hbl⟩
  obtain ⟨a, c, rfl⟩ := kshape ho
  have I0 : Hid (IX base b w1 (S.drop 0) ∧ Ev DT base w w1 ∧ w1.ownsRow w.heap.size 9 1 (.slice a R.length c) R.length ((keysOf R).map sv)) := hid_of ⟨ix_perm (ix_below HH.out.1 hbl) HH.out.2.1.perm.symm, Ev.of_below hbl, ho⟩
  clear ho hbl HP
  go_wp2_with fail
  go_loopg [16] R.length (fun gk s16 wx => ∃ k : Nat, k + gk = R.length ∧ s16 = .int .i64 (k : Int) ∧ Hid (IX base b wx (S.drop k) ∧ Ev DT base w wx ∧ wx.ownsRow w.heap.size 9 1 (.slice a R.length c) R.length ((keysOf R).map sv)))
  case atStart => exact ⟨0, by omega, rfl, I0⟩
  case round =>
    obtain ⟨k, hk, rfl, I⟩ := hrel
    clear I0
    by_cases hlt : k < R.length
    · have hd : (k : Int) < (R.length : Int) := by omega
      have hkl : k < (keysOf R).length := by unfold keysOf; rw [List.length_map]; exact hlt
      obtain ⟨q, c', he, ⟨cur, hq⟩, hc⟩ := krow (ks := keysOf R) (by unfold keysOf at *; rw [List.length_map]; exact I.out.2.2) (by omega)
      have hkS : k < S.length := by have := HH.out.2.2.length_le; omega
      have ck := hc k hkl
      rw [key_at HH.out.2.2 k hlt hkl hkS] at ck
      have hmem := mem_at hkS
      have HD := hid_of (drop_call I.out.1 S[k].1 (ix_wide I.out.1 hmem))
      obtain ⟨Xk, hXk⟩ : ∃ Xk, Xk = S[k].1 := ⟨_, rfl⟩
      rw [← hXk] at HD ck
      have HM := hid_of (show ∃ hkS : k < S.length, S[k] ∈ S.drop k ∧ Xk = S[k].1 from ⟨hkS, hmem, hXk⟩)
      injection he with e1 e2 e3
      subst e1
      clear e2 e3 hkl hkS hmem hXk hc hq
      unfold sv at ck
      unfold ptr at HD
      go_wp2_with fail
      refine HD.out.mono ?_
      rintro e w2 ⟨q', rfl, hor, he2⟩
      have HN : Hid (IX base b w2 (S.drop (k + 1)) ∧ Ev DT base w w2 ∧ w2.ownsRow w.heap.size 9 1 (.slice (some ⟨q, 0, none⟩) R.length c) R.length ((keysOf R).map sv)) := by
        obtain ⟨hkS, hmem, hXk⟩ := HM.out
        rcases hor with ⟨_, x, s', hx, hp, hix⟩ | ⟨_, hno, _⟩
        · have hxm : x ∈ S.drop k := hp.mem_iff.1 (by simp)
          have hxe := ix_key I.out.1 hxm hmem (by rw [hx, hXk])
          exact hid_of ⟨ix_perm hix (drop_next hkS hxe hp), I.out.2.1.trans he2, row_ev I.out.2.2 he2⟩
        · exact absurd hXk.symm (hno _ hmem)
      clear hor he2 HD ck
      go_wp2_with fail
      go_roundg (gk - 1)
      case rel => exact ⟨k + 1, by omega, by rw [show ((k + 1 : Nat) : Int) = (k : Int) + 1 from by omega], HN⟩
      case measure => omega
    · have hd : ¬ (k : Int) < (R.length : Int) := by omega
      have hkR : k = R.length := by omega
      subst hkR
      go_wp2_with fail
      go_ret
      exact ⟨_, rfl, I.out.2.2, I.out.1, I.out.2.1⟩
end Go.Proofs.Ytiaggddpoddbcaa.Take
