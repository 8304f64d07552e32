/- What the law of hashcmd asks with: run, isInt, isErr, are. Fields by rising names, as mathematics: what is set, dropped, found; the map's own datum. A dict in memory: its own block and its map; slices of fields; what a call may touch. -/
import Derived.Test.YtcgdnpcegcmboaaGreatDoorRowOfM
import Derived.Test.YtcgdnpcegcmboaaGreatDoorSPutM
import Derived.BigQuiet
import Derived.Maps.OwnSet
import Derived.Sort.KeysCollected
import Derived.Test.YtcgdnpcegcmboaaGreatDoorRows
import Derived.WalkKit
import Derived.WalkSmall
import Derived.WalkLawsBesides
import Derived.WalkSpells
import Derived.Below
import Derived.Deep.LoopGhost
import Derived.Deep.RegionWith
import Derived.Deep.RegionHeld3
import Derived.Deep.AppendSrc
import Derived.Maps.RangeWalk
import Derived.Sort.OwnSorted
import Derived.Sort.Walk0
import Derived.Lib.Strings
section
namespace Go.Proofs.YtcgdnpcegcmboaaGreatDoor.HLaw
open Go.RowKit Go.Maps
open Go.Proofs.YtcgdnpcegcmboaaGreatDoor.SpaceMath (wout withL lkp keys Ris toD)
open Go.Proofs.YtcgdnpcegcmboaaGreatDoor.ValueMath (Vl chk small)
open Go.Proofs.YtcgdnpcegcmboaaGreatDoor.Base (mk mk_list mk_size Gr hid_of SL)
open Go.Proofs.YtcgdnpcegcmboaaGreatDoor.Turn
open Go.Proofs.YtcgdnpcegcmboaaGreatDoor.Vals
open Go.Proofs.YtcgdnpcegcmboaaGreatDoor.SBase
open Go.Proofs.YtcgdnpcegcmboaaGreatDoor.SFind
open Go.Proofs.YtcgdnpcegcmboaaGreatDoor.QBase
open Go.Proofs.YtcgdnpcegcmboaaGreatDoor.HCmd
open Go.Proofs.YtcgdnpcegcmboaaGreatDoor.HRow (RR rep rpL)
set_option linter.unusedVariables false
set_option linter.unusedSimpArgs false
theorem one_box (w : World) (o : Obj) : Below w.heap.size w (w.alloc o) ∧ (w.alloc o).heap[w.heap.size]? = some o ∧ (w.alloc o).heap.size = w.heap.size + 1 := ⟨alb _ _, heap_alloc_new w _, by simp⟩
set_option maxHeartbeats 4000000 in
set_option maxRecDepth 100000 in
theorem isInt_call (k n m : Int) (T : ByteArray) (w : World) :
    Calls Tryz.prog 24 #[rp k T n, .int .i64 m] w fun e w' => e = .returned (.bool (k == 3 && n == m)) ∧ Below w.heap.size w w' := by
  obtain ⟨W, hW⟩ : ∃ W, W = w.alloc (rO k T n (.slice none 0 0)) := ⟨_, rfl⟩
  obtain ⟨bW, x0, sW⟩ := one_box w (rO k T n (.slice none 0 0))
  rw [← hW] at bW x0 sW
  have HB := hid_of bW
  have HW := hid_of hW
  obtain ⟨⟨c0, c1, c2, c3⟩, -⟩ := box4 x0
  clear hW bW x0 sW
  by_cases hk : k = 3
  · subst hk
    have e1 : ((3 : Int) == 3) = true := rfl
    rw [e1, Bool.true_and]
    go_enter Tryz.func24, Tryz.ntmps24
    go_wp2_with fail
    rw [← HW.out]
    go_wp2_with fail
    go_ret
    exact ⟨rfl, HB.out⟩
  · have e1 : (k == 3) = false := by simp [hk]
    rw [e1, Bool.false_and]
    go_enter Tryz.func24, Tryz.ntmps24
    go_wp2_with fail
    rw [← HW.out]
    go_wp2_with fail
    go_ret
    exact ⟨rfl, HB.out⟩
set_option maxHeartbeats 4000000 in
set_option maxRecDepth 100000 in
theorem isErr_yes (T : ByteArray) (n : Int) (w : World) :
    Calls Tryz.prog 28 #[rp 2 T n, .string T] w fun e w' => e = .returned (.bool true) ∧ Below w.heap.size w w' := by
  obtain ⟨W, hW⟩ : ∃ W, W = w.alloc (rO 2 T n (.slice none 0 0)) := ⟨_, rfl⟩
  obtain ⟨bW, x0, sW⟩ := one_box w (rO 2 T n (.slice none 0 0))
  rw [← hW] at bW x0 sW
  have HB := hid_of bW
  have HW := hid_of hW
  have hTT : (T.toList == T.toList) = true := by simp
  obtain ⟨⟨c0, c1, c2, c3⟩, -⟩ := box4 x0
  clear hW bW x0 sW
  go_enter Tryz.func28, Tryz.ntmps28
  go_wp2_with fail
  rw [← HW.out]
  go_wp2_with fail
  go_ret
  exact ⟨rfl, HB.out⟩
theorem flat_at : ∀ (l : List Bs) (k : Nat) (h : k < l.length) (j : Nat) (v : Value), (rep (l[k]'h))[j]? = some v → (l.flatMap rep)[k * 4 + j]? = some v
  | x :: r, 0, h, j, v, hv => by
    rw [List.flatMap_cons, Nat.zero_mul, Nat.zero_add]
    have hj : j < (rep x).length := (List.getElem?_eq_some_iff.1 hv).1
    rw [List.getElem?_append_left hj]
    exact hv
  | x :: r, k + 1, h, j, v, hv => by
    have ih := flat_at r k (by simpa using h) j v hv
    rw [List.flatMap_cons, List.getElem?_append_right (by simp [rep]; omega)]
    rw [← ih]
    congr 1
    simp [rep]
    omega
theorem rr_at {B : Nat} {w : World} {v : Value} {P : List Bs} (h : RR B w v P) : ∃ a c, v = .slice a P.length c ∧ ∀ k (hk : k < P.length), ∃ g, a = some ⟨g, 0, none⟩ ∧ g < w.heap.size ∧ w.cell? ⟨g, k * 4, none⟩ = some (.int .i64 4) ∧ w.cell? ⟨g, k * 4 + 1, none⟩ = some (.string (mk (P[k]'hk))) ∧ w.cell? ⟨g, k * 4 + 2, none⟩ = some (.int .i64 0) ∧ w.cell? ⟨g, k * 4 + 3, none⟩ = some (.slice none 0 0) := by
  rcases h.2 with ⟨rfl, h0⟩ | ⟨g, cap, cur, rfl, hb, hg, q1, q2, q3, q4⟩
  · refine ⟨none, 0, by rw [h0], fun k hk => by omega⟩
  · refine ⟨_, cap, rfl, fun k hk => ⟨g, rfl, lt_of hg, ?_, ?_, ?_, ?_⟩⟩
    · have := h.cellAt (k * 4) (by omega)
      exact this.trans (flat_at P k hk 0 _ rfl)
    · have := h.cellAt (k * 4 + 1) (by omega)
      exact this.trans (flat_at P k hk 1 _ rfl)
    · have := h.cellAt (k * 4 + 2) (by omega)
      exact this.trans (flat_at P k hk 2 _ rfl)
    · have := h.cellAt (k * 4 + 3) (by omega)
      exact this.trans (flat_at P k hk 3 _ rfl)
theorem rr_ev {w V w1 w2 : World} {v : Value} {P : List Bs} (h : RR V.heap.size w1 v P) (hb : w.heap.size ≤ V.heap.size) (e : Ev (HCmd.Tmp w V) w1 w2) : RR w.heap.size w2 v P := by
  refine ⟨h.1, h.2.imp id ?_⟩
  rintro ⟨g, cap, cur, rfl, hB, hg, r⟩
  exact ⟨g, cap, cur, rfl, Nat.le_trans hb hB, (e.block g (lt_of hg) (fun t => by have := t.2; omega)).trans hg, r⟩
section
variable {F X : Nat → Prop} {b : Nat} {w : World} {S : Sp}
set_option maxHeartbeats 4000000 in
set_option maxRecDepth 100000 in
theorem run_any (h : SP F X b w S) (now : Int) (a : Option Addr) (n c : Nat) {S' : Sp} (rk rn : Int) (rT : ByteArray) (R : World → Option Addr → Nat → Nat → World → Prop) (R' : Option Addr → Nat → Nat → World → Prop)
    (hR : ∀ V la ln lc w1 w2, Below w.heap.size w V → R V la ln lc w1 → Ev (HCmd.Tmp w V) w1 w2 → R' la ln lc w2)
    (hE : ∀ V (X' : Nat → Prop), SP F X' b V S → Below w.heap.size w V → Calls Tryz.prog 8 #[ptr b, .int .i64 now, .slice a n c] V fun e w' => ∃ la ln lc, e = .returned (.tuple #[.agg #[.int .i64 rk, .string rT, .int .i64 rn, .slice la ln lc], .bool true]) ∧ R V la ln lc w' ∧ Dn F X' b V w' S') :
    Calls Tryz.prog 21 #[ptr b, .int .i64 now, .slice a n c] w fun e w' => ∃ la ln lc, e = .returned (.agg #[.int .i64 rk, .string rT, .int .i64 rn, .slice la ln lc]) ∧ R' la ln lc w' ∧ Dn F X b w w' S' := by
  obtain ⟨W, hW⟩ : ∃ W, W = w.alloc (rO 0 ⟨#[]⟩ 0 (.slice none 0 0)) := ⟨_, rfl⟩
  obtain ⟨bW, x0, sW⟩ := one_box w (rO 0 ⟨#[]⟩ 0 (.slice none 0 0))
  rw [← hW] at bW x0 sW
  have HH := hid_of h
  have HB := hid_of bW
  have HX0 := hid_of x0
  have HSW := hid_of sW
  have HW := hid_of hW
  have HRR := hid_of hR
  have t0 : HCmd.Tmp w W w.heap.size := ⟨Nat.le_refl _, by rw [HSW.out]; omega⟩
  have H1 := hid_of (hE W (fun k => X k ∨ HCmd.Tmp w W k) (sp_wide h bW) bW)
  clear hW bW x0 sW h hE hR
  go_enter Tryz.func21, Tryz.ntmps21
  go_wp2_with fail
  rw [← HW.out]
  go_wp2_with fail
  refine H1.out.mono ?_
  rintro e w1 ⟨la, ln, lc, rfl, r1, d1⟩
  have hl1 : w.heap.size < w1.heap.size := Nat.lt_of_lt_of_le t0.2 (dn_size d1)
  have z2 := (dn_block HH.out HB.out d1 t0).trans HX0.out
  have hz := fin4_at z2 (.int .i64 rk) (.string rT) (.int .i64 rn) (.slice la ln lc)
  have hev := ev_fin4 (w := w) (W := W) (w1 := w1) t0 (.int .i64 rk) (.string rT) (.int .i64 rn) (.slice la ln lc)
  have hdn := dn_tmp HH.out HB.out d1 hev
  have hz2 := ((alb _ (rO rk rT rn (.slice la ln lc))).block _ (lt_of hz)).trans hz
  have hdn2 := SDrop.dn_below hdn (alb _ (rO rk rT rn (.slice la ln lc)))
  have hrr := HRR.out W la ln lc w1 _ HB.out r1 (hev.trans (Ev.of_below (alb _ (rO rk rT rn (.slice la ln lc)))))
  unfold fin4 at hz2 hdn2 hrr
  obtain ⟨⟨v0, v1, v2, v3⟩, fv⟩ := box4 z2
  have fv0 := fv 0
  have fv1 := fv 1
  have fv2 := fv 2
  have fv3 := fv 3
  clear fv z2 hz hdn d1 hev
  go_wp2_with fail
  obtain ⟨⟨g0, g1, g2, g3⟩, -⟩ := box4 hz2
  exact bodyPost_ret (v := (.agg #[.int .i64 rk, .string rT, .int .i64 rn, .slice la ln lc])) (by simp [results, Tryz.results21, go_sem, g0, g1, g2, g3]) rfl ⟨la, ln, lc, rfl, hrr, hdn2⟩
theorem run_do (h : SP F X b w S) (now : Int) (a : Option Addr) (n c : Nat) {S' : Sp} (rk rn : Int) (rT : ByteArray) (hE : ∀ V (X' : Nat → Prop), SP F X' b V S → Below w.heap.size w V → Calls Tryz.prog 8 #[ptr b, .int .i64 now, .slice a n c] V fun e w' => e = .returned (.tuple #[rp rk rT rn, .bool true]) ∧ Dn F X' b V w' S') :
    Calls Tryz.prog 21 #[ptr b, .int .i64 now, .slice a n c] w fun e w' => e = .returned (rp rk rT rn) ∧ Dn F X b w w' S' :=
  (run_any h now a n c rk rn rT (fun _ la ln lc _ => la = none ∧ ln = 0 ∧ lc = 0) (fun la ln lc _ => la = none ∧ ln = 0 ∧ lc = 0) (fun _ _ _ _ _ _ _ h _ => h)
    (fun V X' hS hV => (hE V X' hS hV).mono fun e w' ⟨h1, h2⟩ => ⟨none, 0, 0, h1, ⟨rfl, rfl, rfl⟩, h2⟩)).mono fun e w' ⟨la, ln, lc, h1, h2, h3⟩ => by
      obtain ⟨rfl, rfl, rfl⟩ := h2
      exact ⟨h1, h3⟩
end
set_option maxHeartbeats 8000000 in
set_option maxRecDepth 100000 in
theorem are_yes {B : Nat} {G : Nat → Prop} {w : World} {v u : Value} {P : List Bs} (hv : RR B w v P) (hu : SL G w u P) (hl : P.length ≤ 1000000) :
    Calls Tryz.prog 36 #[rpL v, u] w fun e w' => e = .returned (.bool true) ∧ Below w.heap.size w w' := by
  obtain ⟨a, c, rfl, hat⟩ := rr_at hv
  obtain ⟨a', c', rfl, hc', hr⟩ := hu
  obtain ⟨W, hW⟩ : ∃ W, W = w.alloc (rO 6 ⟨#[]⟩ 0 (.slice a P.length c)) := ⟨_, rfl⟩
  obtain ⟨bW, x0, sW⟩ := one_box w (rO 6 ⟨#[]⟩ 0 (.slice a P.length c))
  rw [← hW] at bW x0 sW
  have HB := hid_of bW
  have HX := hid_of x0
  have HW := hid_of hW
  have HA := hid_of hat
  have HR := hid_of hr
  obtain ⟨⟨c0, c1, c2, c3⟩, -⟩ := box4 x0
  clear hW bW x0 sW hat hr hv hc'
  go_enter Tryz.func36, Tryz.ntmps36
  go_wp2_with fail
  rw [← HW.out]
  go_wp2_with fail
  go_loopg [5] P.length (fun g s5 wx => ∃ i : Nat, i ≤ P.length ∧ P.length ≤ i + g ∧ s5 = .int .i64 (i : Int) ∧ Hid (∃ q, wx = W.drewN q))
  case atStart => exact ⟨0, by omega, by omega, rfl, hid_of ⟨0, rfl⟩⟩
  case round =>
    obtain ⟨i, hi, hg, rfl, HBx⟩ := hrel
    by_cases hlt : i < P.length
    · obtain ⟨g', rfl⟩ : ∃ g', gk = g' + 1 := ⟨gk - 1, by omega⟩
      obtain ⟨gr, rfl, hgr, q0, q1, q2, q3⟩ := HA.out i hlt
      obtain ⟨gw, ow, rfl, _, qw⟩ := Base.Rd.get HR.out (by omega)
      have qc : w.cell? ⟨gw, ow + i, none⟩ = some (.string (mk P[i])) := qw i _ (List.getElem?_eq_getElem hlt)
      have p0 : wr.cell? ⟨gr, i * 4, none⟩ = some (.int .i64 4) := by obtain ⟨q, rfl⟩ := HBx.out; exact (HB.out.cell (p := ⟨gr, i * 4, none⟩) hgr).trans q0
      have p1 : wr.cell? ⟨gr, i * 4 + 1, none⟩ = some (.string (mk P[i])) := by obtain ⟨q, rfl⟩ := HBx.out; exact (HB.out.cell (p := ⟨gr, i * 4 + 1, none⟩) hgr).trans q1
      have pc : wr.cell? ⟨gw, ow + i, none⟩ = some (.string (mk P[i])) := by obtain ⟨q, rfl⟩ := HBx.out; exact (HB.out.cell (p := ⟨gw, ow + i, none⟩) (Base.cell_lt qc)).trans qc
      have pb : wr.cell? ⟨w.heap.size, 3, none⟩ = some (.slice (some ⟨gr, 0, none⟩) P.length c) := by obtain ⟨q, rfl⟩ := HBx.out; exact c3
      have w2 : IntKind.i64.wrap ((i : Int) + 1) = (i : Int) + 1 := IntWalk.i64_in _ (by omega)
      have d1 : (i : Int) < (P.length : Int) := by omega
      generalize mk P[i] = T at *
      have hTT : (T.toList != T.toList) = false := by simp
      clear q0 q1 q2 q3 qw qc c0 c1 c2 c3
      go_wp2_with fail
      go_quiet (fail)
      go_wp2_with fail
      go_roundg g'
      case measure => omega
      case rel => exact ⟨i + 1, by omega, by omega, by simp, hid_of (by obtain ⟨q, e⟩ := HBx.out; exact ⟨q + nq, by rw [e, World.drewN_drewN]⟩)⟩
    · have BX := hid_of (show Below w.heap.size w wr by obtain ⟨q, rfl⟩ := HBx.out; exact FRow.bdrew HB.out q)
      have gi : ¬ (i : Int) < (P.length : Int) := by omega
      go_wp2_with fail
      go_ret
      exact ⟨rfl, BX.out⟩
end Go.Proofs.YtcgdnpcegcmboaaGreatDoor.HLaw
end
section
namespace Go.Proofs.YtcgdnpcegcmboaaGreatDoor.DiDictMath
open Go.Maps
set_option linter.unusedVariables false
set_option linter.unusedSimpArgs false

abbrev Bs := List UInt8
abbrev FL := List (Bs × Bs)
def wout (l : FL) (k : Bs) : FL := l.filter fun p => !(p.1 == k)
def insL (x : Bs × Bs) : FL → FL
  | [] => [x]
  | y :: r => if bytesBefore x.1 y.1 then x :: y :: r else y :: insL x r
def withL (l : FL) (k v : Bs) : FL := insL (k, v) (wout l k)
def lkp (l : FL) (k : Bs) : Option Bs := (l.find? fun p => p.1 == k).map (·.2)
def keys (l : FL) : List Bs := l.map (·.1)
def Ris (l : FL) : Prop := l.Pairwise (fun a b => a.1 < b.1)
def beh (l : FL) (k : Bs) : FL := l.filter fun p => decide (k < p.1)
def pos (l : FL) (k : Bs) : Nat := (l.takeWhile fun p => decide (p.1 < k)).length

theorem lt_tot (a b : Bs) : a < b ∨ a = b ∨ b < a := by
  rcases Decidable.em (a < b) with q | q
  · exact .inl q
  · rcases Decidable.em (b < a) with r | r
    · exact .inr (.inr r)
    · exact .inr (.inl (List.le_antisymm r q))
theorem lt_ne {a b : Bs} (h : a < b) : a ≠ b := fun e => List.lt_irrefl b (e ▸ h)
theorem lt_not {a b : Bs} (h : a < b) : ¬ b < a := fun h2 => List.lt_irrefl a (List.lt_trans h h2)
theorem before_lt : ∀ a b : Bs, bytesBefore a b = decide (a < b)
  | [], [] => rfl
  | [], y :: s => by simp [bytesBefore]
  | x :: r, [] => by simp [bytesBefore]
  | x :: r, y :: s => by
    unfold bytesBefore
    rw [before_lt r s, Bool.eq_iff_iff]
    simp only [Bool.or_eq_true, decide_eq_true_eq, Bool.and_eq_true, beq_iff_eq, List.cons_lt_cons_iff]
theorem Ris.tail {a : Bs × Bs} {l : FL} (h : Ris (a :: l)) : Ris l := (List.pairwise_cons.1 h).2
theorem Ris.head {a : Bs × Bs} {l : FL} (h : Ris (a :: l)) : ∀ p ∈ l, a.1 < p.1 := (List.pairwise_cons.1 h).1
theorem wout_same {l : FL} {k : Bs} (h : ∀ p ∈ l, p.1 ≠ k) : wout l k = l := List.filter_eq_self.2 fun p hp => by simp [h p hp]
theorem wout_len (l : FL) (k : Bs) : (wout l k).length ≤ l.length := List.length_filter_le _ _
theorem wout_ris {l : FL} (h : Ris l) (k : Bs) : Ris (wout l k) := List.Pairwise.sublist List.filter_sublist h
theorem wout_mem {l : FL} {k : Bs} {p : Bs × Bs} (h : p ∈ wout l k) : p ∈ l := (List.mem_filter.1 h).1
theorem ins_mem {x p : Bs × Bs} : ∀ {l : FL}, p ∈ insL x l → p = x ∨ p ∈ l
  | [], h => by simp only [insL, List.mem_singleton] at h; exact Or.inl h
  | y :: r, h => by
    unfold insL at h
    split at h
    · rcases List.mem_cons.1 h with h | h
      · exact Or.inl h
      · exact Or.inr h
    · rcases List.mem_cons.1 h with h | h
      · exact Or.inr (List.mem_cons.2 (Or.inl h))
      · rcases ins_mem h with h | h
        · exact Or.inl h
        · exact Or.inr (List.mem_cons.2 (Or.inr h))
theorem ins_len (x : Bs × Bs) : ∀ l : FL, (insL x l).length = l.length + 1
  | [] => rfl
  | y :: r => by
    unfold insL
    split
    · rfl
    · simp [ins_len x r]
theorem with_len (l : FL) (k v : Bs) : (withL l k v).length ≤ l.length + 1 := by
  unfold withL; rw [ins_len]; have := wout_len l k; omega
theorem with_mem {l : FL} {k v : Bs} {p : Bs × Bs} (h : p ∈ withL l k v) : p = (k, v) ∨ p ∈ l := (ins_mem h).imp id wout_mem
theorem ins_ris {x : Bs × Bs} : ∀ {l : FL}, Ris l → (∀ p ∈ l, p.1 ≠ x.1) → Ris (insL x l)
  | [], _, _ => List.pairwise_singleton _ _
  | y :: r, h, hn => by
    unfold insL
    rw [before_lt]
    by_cases hx : x.1 < y.1
    · rw [if_pos (decide_eq_true hx)]
      refine List.pairwise_cons.2 ⟨fun p hp => ?_, h⟩
      rcases List.mem_cons.1 hp with rfl | hp
      · exact hx
      · exact List.lt_trans hx (h.head p hp)
    · rw [if_neg (by simpa using hx)]
      have hy : y.1 < x.1 := by
        rcases lt_tot x.1 y.1 with q | q | q
        · exact absurd q hx
        · exact absurd q.symm (hn y List.mem_cons_self)
        · exact q
      refine List.pairwise_cons.2 ⟨fun p hp => ?_, ins_ris h.tail (fun p hp => hn p (List.mem_cons_of_mem _ hp))⟩
      rcases ins_mem hp with rfl | hp
      · exact hy
      · exact h.head p hp
theorem wout_none {l : FL} {k : Bs} : ∀ p ∈ wout l k, p.1 ≠ k := fun p hp => by
  have := (List.mem_filter.1 hp).2
  simpa using this
theorem with_ris {l : FL} (h : Ris l) (k v : Bs) : Ris (withL l k v) := ins_ris (wout_ris h k) (fun p hp => wout_none p hp)
theorem with_snoc {l : FL} {k v : Bs} (h : ∀ p ∈ l, p.1 < k) : withL l k v = l ++ [(k, v)] := by
  unfold withL
  rw [wout_same (fun p hp => lt_ne (h p hp))]
  induction l with
  | nil => rfl
  | cons a r ih =>
    unfold insL
    rw [before_lt, if_neg (by simpa using lt_not (h a List.mem_cons_self)), ih (fun p hp => h p (List.mem_cons_of_mem _ hp))]
    rfl
/- by places -/
theorem lkp_none {l : FL} {k : Bs} (h : ∀ p ∈ l, p.1 ≠ k) : lkp l k = none := by
  unfold lkp
  rw [List.find?_eq_none.2 (fun p hp => by simpa using h p hp)]
  rfl
theorem lkp_cons (a : Bs × Bs) (l : FL) (k : Bs) : lkp (a :: l) k = if a.1 = k then some a.2 else lkp l k := by
  unfold lkp
  rw [List.find?_cons]
  by_cases h : a.1 = k
  · rw [if_pos h, show (a.1 == k) = true from by simpa using h]; rfl
  · rw [if_neg h, show (a.1 == k) = false from by simpa using h]
theorem lkp_mem : ∀ {l : FL} {k v : Bs}, lkp l k = some v → (k, v) ∈ l
  | a :: r, k, v, h => by
    rw [lkp_cons] at h
    by_cases hk : a.1 = k
    · rw [if_pos hk] at h
      have : a = (k, v) := by cases a; simp at hk h; simp [hk, h]
      rw [this]; exact List.mem_cons_self
    · rw [if_neg hk] at h
      exact List.mem_cons_of_mem _ (lkp_mem h)
theorem lkp_at : ∀ {l : FL}, Ris l → ∀ p ∈ l, lkp l p.1 = some p.2
  | a :: r, h, p, hp => by
    rw [lkp_cons]
    rcases List.mem_cons.1 hp with rfl | hp'
    · rw [if_pos rfl]
    · rw [if_neg (lt_ne (h.head p hp'))]
      exact lkp_at h.tail p hp'
theorem pos_cons_lt {a : Bs × Bs} {l : FL} {k : Bs} (h : a.1 < k) : pos (a :: l) k = pos l k + 1 := by
  unfold pos; rw [List.takeWhile_cons, if_pos (decide_eq_true h)]; rfl
theorem pos_cons_ge {a : Bs × Bs} {l : FL} {k : Bs} (h : ¬ a.1 < k) : pos (a :: l) k = 0 := by
  unfold pos; rw [List.takeWhile_cons, if_neg (by simpa using h)]; rfl
theorem pos_le : ∀ (l : FL) (k : Bs), pos l k ≤ l.length := fun l k => by unfold pos; exact (List.takeWhile_sublist _).length_le
theorem all_above {a : Bs × Bs} {r : FL} {k : Bs} (h : Ris (a :: r)) (hk : ¬ a.1 < k) : ∀ p ∈ r, k < p.1 := fun p hp => by
  rcases lt_tot a.1 k with q | q | q
  · exact absurd q hk
  · rw [← q]; exact h.head p hp
  · exact List.lt_trans q (h.head p hp)
def ok (l : FL) (k : Bs) : Bool := (lkp l k).isSome
theorem with_eq : ∀ {l : FL}, Ris l → ∀ k v, withL l k v = l.take (pos l k) ++ (k, v) :: l.drop (if ok l k then pos l k + 1 else pos l k)
  | [], _, k, v => rfl
  | a :: r, h, k, v => by
    unfold ok
    rw [lkp_cons]
    by_cases hk : a.1 < k
    · have ih := with_eq h.tail k v
      unfold ok at ih
      rw [if_neg (lt_ne hk), pos_cons_lt hk]
      have e1 : withL (a :: r) k v = a :: withL r k v := by
        have e0 : wout (a :: r) k = a :: wout r k := by unfold wout; rw [List.filter_cons, if_pos (by simpa using lt_ne hk)]
        unfold withL
        rw [e0, insL, before_lt, if_neg (by simpa using lt_not hk)]
      rw [e1, ih]
      cases (lkp r k).isSome <;> simp
    · have ha := all_above h hk
      have hr : wout r k = r := wout_same (fun p hp e => List.lt_irrefl k (by have := ha p hp; rw [e] at this; exact this))
      rw [pos_cons_ge hk]
      by_cases he : a.1 = k
      · rw [if_pos he]
        have e1 : wout (a :: r) k = r := by
          have : wout (a :: r) k = wout r k := by unfold wout; rw [List.filter_cons, if_neg (by simpa using he)]
          rw [this, hr]
        unfold withL
        rw [e1]
        cases r with
        | nil => simp [insL]
        | cons b s =>
          unfold insL
          rw [before_lt, if_pos (by simpa using ha b List.mem_cons_self)]
          simp
      · rw [if_neg he]
        have hl : k < a.1 := by
          rcases lt_tot a.1 k with q | q | q
          · exact absurd q hk
          · exact absurd q he
          · exact q
        have e1 : wout (a :: r) k = a :: r := by
          have : wout (a :: r) k = a :: wout r k := by unfold wout; rw [List.filter_cons, if_pos (by simpa using he)]
          rw [this, hr]
        have e2 : lkp r k = none := lkp_none (fun p hp e => List.lt_irrefl k (by have := ha p hp; rw [e] at this; exact this))
        unfold withL
        rw [e1, e2]
        unfold insL
        rw [before_lt, if_pos (by simpa using hl)]
        simp
theorem wout_eq : ∀ {l : FL}, Ris l → ∀ k, ok l k = true → wout l k = l.take (pos l k) ++ l.drop (pos l k + 1)
  | [], _, k, h => by cases h
  | a :: r, h, k, hok => by
    unfold ok at hok
    rw [lkp_cons] at hok
    by_cases hk : a.1 < k
    · rw [if_neg (lt_ne hk)] at hok
      rw [pos_cons_lt hk]
      have e1 : wout (a :: r) k = a :: wout r k := by unfold wout; rw [List.filter_cons, if_pos (by simpa using lt_ne hk)]
      rw [e1, wout_eq h.tail k hok]
      simp
    · have ha := all_above h hk
      have hnr : ∀ p ∈ r, p.1 ≠ k := fun p hp e => List.lt_irrefl k (by have := ha p hp; rw [e] at this; exact this)
      rw [pos_cons_ge hk]
      by_cases he : a.1 = k
      · have e1 : wout (a :: r) k = wout r k := by unfold wout; rw [List.filter_cons, if_neg (by simpa using he)]
        rw [e1, wout_same hnr]
        simp
      · rw [if_neg he, lkp_none hnr] at hok
        cases hok
theorem wout_no {l : FL} {k : Bs} (h : ok l k = false) : wout l k = l := wout_same fun p hp e => by
  unfold ok lkp at h
  rw [Option.isSome_map, List.isSome_find?] at h
  have := List.any_eq_false.1 h p hp
  simp [e] at this
theorem ok_iff {l : FL} {k : Bs} : ok l k = true ↔ ∃ p ∈ l, p.1 = k := by
  unfold ok lkp
  rw [Option.isSome_map, List.isSome_find?, List.any_eq_true]
  simp
theorem wout_len_ok {l : FL} (h : Ris l) {k : Bs} (hk : ok l k = true) : (wout l k).length + 1 = l.length := by
  rw [wout_eq h k hk, List.length_append, List.length_take, List.length_drop]
  have hp : pos l k < l.length := by
    obtain ⟨p, hp, e⟩ := ok_iff.1 hk
    induction l with
    | nil => cases hp
    | cons a r ih =>
      by_cases hl : a.1 < k
      · rw [pos_cons_lt hl]
        rcases List.mem_cons.1 hp with rfl | hp'
        · exact absurd e (lt_ne hl)
        · have := ih h.tail (ok_iff.2 ⟨p, hp', e⟩) hp'
          simp; omega
      · rw [pos_cons_ge hl]; simp
  omega
theorem with_len_eq {l : FL} (h : Ris l) (k v : Bs) : (withL l k v).length = if ok l k then l.length else l.length + 1 := by
  unfold withL
  rw [ins_len]
  cases hk : ok l k with
  | true => rw [if_pos rfl]; exact wout_len_ok h hk
  | false => rw [wout_no hk]; rfl
theorem lkp_wout (l : FL) (k x : Bs) (h : x ≠ k) : lkp (wout l k) x = lkp l x := by
  induction l with
  | nil => rfl
  | cons a r ih =>
    by_cases hk : a.1 = k
    · have e1 : wout (a :: r) k = wout r k := by unfold wout; rw [List.filter_cons, if_neg (by simpa using hk)]
      rw [e1, ih, lkp_cons, if_neg (fun e => h (by rw [← e, hk]))]
    · have e1 : wout (a :: r) k = a :: wout r k := by unfold wout; rw [List.filter_cons, if_pos (by simpa using hk)]
      rw [e1, lkp_cons, lkp_cons, ih]
theorem lkp_ins (x : Bs × Bs) (k : Bs) : ∀ l : FL, (∀ p ∈ l, p.1 ≠ x.1) → lkp (insL x l) k = if x.1 = k then some x.2 else lkp l k
  | [], _ => by unfold insL; rw [lkp_cons]
  | y :: r, h => by
    unfold insL
    split
    · rw [lkp_cons]
    · rw [lkp_cons, lkp_ins x k r (fun p hp => h p (List.mem_cons_of_mem _ hp)), lkp_cons]
      by_cases hx : x.1 = k
      · rw [if_pos hx, if_neg (fun e => h y List.mem_cons_self (by rw [e, hx]))]
        rw [if_pos hx]
      · rw [if_neg hx, if_neg hx]
theorem lkp_with (l : FL) (k v x : Bs) : lkp (withL l k v) x = if k = x then some v else lkp l x := by
  unfold withL
  rw [lkp_ins (k, v) x (wout l k) (fun p hp => wout_none p hp)]
  by_cases h : k = x
  · rw [if_pos h, if_pos h]
  · rw [if_neg h, if_neg h, lkp_wout l k x (fun e => h e.symm)]
theorem beh_eq : ∀ {l : FL}, Ris l → ∀ k, beh l k = l.drop (if ok l k then pos l k + 1 else pos l k)
  | [], _, k => by simp [beh]
  | a :: r, h, k => by
    unfold ok
    rw [lkp_cons]
    by_cases hk : a.1 < k
    · have ih := beh_eq h.tail k
      unfold ok at ih
      rw [if_neg (lt_ne hk), pos_cons_lt hk]
      have e1 : beh (a :: r) k = beh r k := by unfold beh; rw [List.filter_cons, if_neg (by simpa using lt_not hk)]
      rw [e1, ih]
      cases (lkp r k).isSome <;> simp
    · have ha := all_above h hk
      have e3 : beh r k = r := List.filter_eq_self.2 fun p hp => by simpa using ha p hp
      rw [pos_cons_ge hk]
      by_cases he : a.1 = k
      · rw [if_pos he]
        have e1 : beh (a :: r) k = beh r k := by unfold beh; rw [List.filter_cons, if_neg (by rw [he]; simp)]
        rw [e1, e3]
        simp
      · rw [if_neg he]
        have hl : k < a.1 := by
          rcases lt_tot a.1 k with q | q | q
          · exact absurd q hk
          · exact absurd q he
          · exact q
        have e1 : beh (a :: r) k = a :: beh r k := by unfold beh; rw [List.filter_cons, if_pos (by simpa using hl)]
        have e2 : lkp r k = none := lkp_none (fun p hp e => List.lt_irrefl k (by have := ha p hp; rw [e] at this; exact this))
        rw [e1, e3, e2]
        simp
/- the map's own datum -/
abbrev ent (p : Bs × Bs) : Lit × DataW Unit := (.string p.1, .lit (.string p.2))
def toD (l : FL) : DataW Unit := .map (l.map ent)
theorem filter_D (k : Bs) : ∀ l : FL, ((l.map ent).filter fun p => !p.1.sameKey (.string k)) = (wout l k).map ent
  | [] => rfl
  | y :: r => by
    have e : ((Lit.string y.1).sameKey (.string k)) = (y.1 == k) := rfl
    show List.filter _ (_ :: _) = (wout (y :: r) k).map _
    unfold wout
    rw [List.filter_cons, List.filter_cons]
    show (if (!(Lit.string y.1).sameKey (.string k)) = true then _ else _) = _
    rw [e]
    by_cases h : (!(y.1 == k)) = true
    · rw [if_pos h, if_pos h, filter_D k r]; rfl
    · rw [if_neg h, if_neg h, filter_D k r]; rfl
theorem insert_D (x : Bs × Bs) : ∀ l : FL, DataW.insert (ent x) (l.map ent) = (insL x l).map ent
  | [] => rfl
  | y :: r => by
    have e : ((Lit.string x.1).before (.string y.1)) = bytesBefore x.1 y.1 := rfl
    show DataW.insert _ (_ :: _) = _
    unfold DataW.insert insL
    show (if (Lit.string x.1).before (.string y.1) = true then _ else _) = _
    rw [e]
    by_cases h : bytesBefore x.1 y.1 = true
    · rw [if_pos h, if_pos h]; rfl
    · rw [if_neg h, if_neg h, insert_D x r]; rfl
theorem del_D (l : FL) (k : Bs) : (toD l).del (.string k) = toD (wout l k) := congrArg DataW.map (filter_D k l)
theorem put_D (l : FL) (k v : Bs) : (toD l).put (.string k) (.lit (.string v)) = toD (withL l k v) := by
  show DataW.map (DataW.insert _ (List.filter _ _)) = _
  rw [filter_D k l]
  exact congrArg DataW.map (insert_D (k, v) _)
theorem has_D (l : FL) (k : Bs) : has (toD l) (.string k) = ok l k := by
  show (l.map _).any _ = _
  unfold ok lkp
  rw [List.any_map, Option.isSome_map, List.isSome_find?]
  rfl
theorem at_D (l : FL) (k : Bs) : (toD l).atKey (.string k) (.lit (.string [])) = .lit (.string ((lkp l k).getD [])) := by
  unfold toD DataW.atKey
  dsimp only
  unfold lkp
  rw [List.find?_map]
  have e : ((fun p : Lit × DataW Unit => p.1.sameKey (.string k)) ∘ ent) = fun p => p.1 == k := rfl
  rw [e]
  cases l.find? (fun p => p.1 == k) <;> rfl
theorem size_D (l : FL) : Maps.size (toD l) = l.length := by
  show (l.map _).length = _
  simp
theorem keys_D (l : FL) : strKeys (toD l) = keys l := by
  show (l.map _).map _ = l.map _
  rw [List.map_map]; rfl
theorem ris_keys {l : FL} (h : Ris l) : (keys l).Pairwise (fun a b => a ≤ b) := by
  unfold keys
  rw [List.pairwise_map]
  exact h.imp fun h => List.le_of_lt h
theorem sort_keys {l : List Bs} (h : l.Pairwise (fun a b => a ≤ b)) : l.mergeSort leB = l := by
  refine List.mergeSort_of_pairwise (h.imp ?_)
  intro a b hab
  simpa [leB] using hab
end Go.Proofs.YtcgdnpcegcmboaaGreatDoor.DiDictMath
end
section
namespace Go.Proofs.YtcgdnpcegcmboaaGreatDoor.DiBase
open Go.RowKit Go.Maps
open Go.Proofs.YtcgdnpcegcmboaaGreatDoor.DiDictMath
set_option linter.unusedVariables false
set_option linter.unusedSimpArgs false

def bs (s : ByteArray) : List UInt8 := s.data.toList
theorem len_bs (s : ByteArray) : (bs s).length = s.size := by unfold bs; simp
def mk (l : List UInt8) : ByteArray := ⟨l.toArray⟩
theorem bs_mk (l : List UInt8) : bs (mk l) = l := rfl
theorem mk_bs (s : ByteArray) : mk (bs s) = s := by cases s; simp [mk, bs]
theorem mk_size (l : List UInt8) : (mk l).size = l.length := by rw [← len_bs, bs_mk]
theorem of_bs {a b : ByteArray} (h : bs a = bs b) : a = b := by rw [← mk_bs a, ← mk_bs b, h]
theorem mk_list (l : List UInt8) : (mk l).toList = l := by rw [Lib.toList_data]; rfl
theorem hid_of {p : Prop} (h : p) : Hid p := h
theorem lt_of {w : World} {b : Nat} {o : Obj} (h : w.heap[b]? = some o) : b < w.heap.size := (Array.getElem?_eq_some_iff.1 h).1
theorem str_eq (a b : List UInt8) : ((mk a).toList == (mk b).toList) = (a == b) := by rw [mk_list, mk_list]

theorem bdrew {B : Nat} {w w' : World} (h : Below B w w') (n : Nat) : Below B w (w'.drewN n) := ⟨h.os, h.tape, h.output, h.size, h.block⟩
theorem bel {B : Nat} {a b c : World} (h : Below B a b) (k : Below b.heap.size b c) (hB : B ≤ a.heap.size) : Below B a c := h.trans (k.mono (Nat.le_trans hB h.size))
theorem ret_b {a b : Bool} (h : a = b) : Ending.returned (.bool a) = .returned (.bool b) := by rw [h]
/- one map has turned, all else stands -/
structure Mv (m : Nat) (w w' : World) : Prop where
  grown : w.grownBy w' (some m)
  was : ∃ es c, w.heap[m]? = some (.map es c)
  is : ∃ es c, w'.heap[m]? = some (.map es c)
theorem cell_blk {w : World} {a : Addr} {v : Value} (h : w.cell? a = some v) : ∃ cs t fz, w.heap[a.block]? = some (.cells cs t fz) := by
  unfold World.cell? at h
  cases e : w.heap[a.block]? with
  | none => rw [e] at h; simp at h
  | some o =>
    cases o with
    | cells cs t fz => exact ⟨cs, t, fz, rfl⟩
    | _ => rw [e] at h; simp at h
theorem Mv.blk {m : Nat} {w w' : World} (h : Mv m w w') {k : Nat} {cs : Array Value} {t : TypeId} {fz : Nat × Nat} (hk : w.heap[k]? = some (.cells cs t fz)) : w'.heap[k]? = some (.cells cs t fz) := by
  obtain ⟨es, c, hm⟩ := h.was
  rw [h.grown.block k (lt_of hk) (fun e => by cases e; rw [hm] at hk; cases hk)]
  exact hk
theorem Mv.cell {m : Nat} {w w' : World} (h : Mv m w w') {a : Addr} {v : Value} (hc : w.cell? a = some v) : w'.cell? a = some v := by
  obtain ⟨cs, t, fz, hb⟩ := cell_blk hc
  unfold World.cell? at hc ⊢
  rw [h.blk hb]
  rw [hb] at hc
  exact hc
theorem Mv.trans {m : Nat} {a b c : World} (h : Mv m a b) (k : Mv m b c) : Mv m a c := ⟨h.grown.trans k.grown, h.was, k.is⟩
theorem Mv.below {m B : Nat} {w0 a b : World} (h : Mv m a b) (hb : Below B w0 a) (hm : B ≤ m) (hB : B ≤ w0.heap.size) : Below B w0 b := hb.grown h.grown (Nat.le_trans hB hb.size) (fun j hj => by cases hj; exact hm)

def RC : Value → Option (DataW Unit × List MemPlace)
  | .agg cs => match cs.toList with
    | [.string s] => some (.lit (.string (bs s)), [])
    | _ => none
  | _ => none
theorem RC_at (s : ByteArray) : RC (.agg #[.string s]) = some (.lit (.string (bs s)), []) := rfl
theorem RC_inv {v : Value} {y : DataW Unit × List MemPlace} (h : RC v = some y) : ∃ s : ByteArray, v = .agg #[.string s] ∧ y.1 = .lit (.string (bs s)) := by
  unfold RC at h
  split at h
  · rename_i cs
    split at h
    · rename_i s e
      cases h
      exact ⟨s, by cases cs; simp at e; rw [e], rfl⟩
    · cases h
  · cases h

abbrev big : Nat := 140737488355328
structure DK (b m : Nat) (l : FL) (w : World) : Prop where
  blk : w.heap[b]? = some (.cells #[.map (some m)] 188 (0, 0))
  map : w.ownsMap Tryz.prog 9 RC m l.length (toD l)
  ris : Ris l
  len : ∀ p ∈ l, p.1.length ≤ 140737488355328 ∧ p.2.length ≤ 140737488355328
theorem owns_norm {w : World} {b n : Nat} {l : FL} (h : w.ownsMap Tryz.prog 9 RC b n (toD l)) : w.ownsMap Tryz.prog 9 RC b l.length (toD l) := by
  obtain ⟨es, c, hb, F, hs, hD⟩ := h
  refine ⟨es, c, hb, F, ?_, hD⟩
  have e : Maps.size (toD l) = es.size := by rw [hD]; simp [Maps.size, length_sorted]
  rw [size_D] at e
  omega
theorem owns_later {w w' : World} {b n : Nat} {D : DataW Unit} (h : w.ownsMap Tryz.prog 9 RC b n D) (hk : w'.heap[b]? = w.heap[b]?) : w'.ownsMap Tryz.prog 9 RC b n D := by
  obtain ⟨es, c, hb, rest⟩ := h
  exact ⟨es, c, hk.trans hb, rest⟩
theorem owns_map {w : World} {b n : Nat} {D : DataW Unit} (h : w.ownsMap Tryz.prog 9 RC b n D) : ∃ es c, w.heap[b]? = some (.map es c) := by
  obtain ⟨es, c, hb, _⟩ := h
  exact ⟨es, c, hb⟩
theorem Mv.of_turned {m : Nat} {w w' : World} (h : w.mapTurned w' m) : Mv m w w' := by
  have hg := h.grown
  obtain ⟨es, c, es', c', h1, rfl⟩ := h
  exact ⟨hg, ⟨es, c, h1⟩, ⟨es', c', ChangeMaps.heap_setBlock_same h1 _⟩⟩
theorem Mv.of_below {m : Nat} {w w' : World} (h : Below w.heap.size w w') (hm : ∃ es c, w.heap[m]? = some (.map es c)) : Mv m w w' := by
  obtain ⟨es, c, h1⟩ := hm
  exact ⟨⟨h.os, h.tape, h.output, h.size, fun k hk _ => h.block k hk⟩, ⟨es, c, h1⟩, ⟨es, c, (h.block m (lt_of h1)).trans h1⟩⟩
theorem DK.below {b m : Nat} {l : FL} {w w' : World} (h : DK b m l w) (hb : Below w.heap.size w w') : DK b m l w' :=
  ⟨(hb.block b (lt_of h.blk)).trans h.blk, owns_later h.map (hb.block m h.map.lt), h.ris, h.len⟩
theorem DK.alloc {b m : Nat} {l : FL} {w : World} (h : DK b m l w) (o : Obj) : DK b m l (w.alloc o) := h.below ((Below.refl _ w).alloc (Nat.le_refl _) o)
theorem DK.drewN {b m : Nat} {l : FL} {w : World} (h : DK b m l w) (n : Nat) : DK b m l (w.drewN n) := h.below ⟨rfl, rfl, rfl, Nat.le_refl _, fun _ _ => rfl⟩
theorem DK.cell {b m : Nat} {l : FL} {w : World} (h : DK b m l w) : w.cell? ⟨b, 0, none⟩ = some (.map (some m)) := Lib.cell_of_heap h.blk 0
theorem DK.frozen {b m : Nat} {l : FL} {w : World} (h : DK b m l w) : w.frozen? ⟨b, 0, none⟩ = false := Lib.frozen_of_heap h.blk 0
theorem DK.other {b m m' : Nat} {l : FL} {w w' : World} (h : DK b m l w) (hv : Mv m' w w') (hne : m ≠ m') : DK b m l w' :=
  ⟨hv.blk h.blk, owns_later h.map (hv.grown.block m h.map.lt (fun e => hne (by cases e; rfl))), h.ris, h.len⟩
def ptr (f : Nat) : Value := .pointer (some ⟨f, 0, none⟩)

/- a slice of fields, to be read -/
def FS (w : World) (v : Value) (l : FL) : Prop := ∃ a c, v = .slice a l.length c ∧ (l = [] ∨ ∃ g o, a = some ⟨g, o, none⟩ ∧ ∀ k (h : k < l.length), w.cell? ⟨g, o + k * 2, none⟩ = some (.string (mk (l[k]'h).1)) ∧ w.cell? ⟨g, o + k * 2 + 1, none⟩ = some (.string (mk (l[k]'h).2)))
theorem FS.keep {w w' : World} {v : Value} {l : FL} (h : FS w v l) (hk : ∀ a x, w.cell? a = some x → w'.cell? a = some x) : FS w' v l := by
  obtain ⟨a, c, rfl, h⟩ := h
  refine ⟨a, c, rfl, h.imp id ?_⟩
  rintro ⟨g, o, e, hc⟩
  exact ⟨g, o, e, fun k hk' => ⟨hk _ _ (hc k hk').1, hk _ _ (hc k hk').2⟩⟩
theorem cell_on {w w' : World} (hb : Below w.heap.size w w') {a : Addr} {x : Value} (h : w.cell? a = some x) : w'.cell? a = some x := by
  obtain ⟨cs, t, fz, hk⟩ := cell_blk h
  rw [hb.cell (lt_of hk)]
  exact h
theorem FS.below {w w' : World} {v : Value} {l : FL} (h : FS w v l) (hb : Below w.heap.size w w') : FS w' v l := h.keep (fun a x hx => cell_on hb hx)
theorem FS.mv {m : Nat} {w w' : World} {v : Value} {l : FL} (h : FS w v l) (hb : Mv m w w') : FS w' v l := h.keep (fun a x hx => hb.cell hx)
def fCells (p : Bs × Bs) : List Value := [.string (mk p.1), .string (mk p.2)]
theorem fflat_len (l : FL) : (l.flatMap fCells).length = l.length * 2 := by
  induction l with
  | nil => rfl
  | cons f r ih => rw [List.flatMap_cons, List.length_append, ih, List.length_cons]; simp [fCells]; omega
theorem fflat_at : ∀ (l : FL) (k : Nat) (h : k < l.length), (l.flatMap fCells)[k * 2]? = some (.string (mk (l[k]'h).1)) ∧ (l.flatMap fCells)[k * 2 + 1]? = some (.string (mk (l[k]'h).2))
  | f :: r, 0, h => ⟨rfl, rfl⟩
  | f :: r, k + 1, h => by
    have ih := fflat_at r k (by simpa using h)
    have e : ∀ i, ((f :: r).flatMap fCells)[(k + 1) * 2 + i]? = (r.flatMap fCells)[k * 2 + i]? := fun i => by
      rw [List.flatMap_cons, List.getElem?_append_right (by simp [fCells]; omega)]
      congr 1
      simp [fCells]
      omega
    exact ⟨(e 0).trans ih.1, (e 1).trans ih.2⟩
/- fields that are the call's own -/
theorem fs_row {B : Nat} {w : World} {l : FL} {v : Value} (h : w.ownsRow B 50 2 v l.length (l.flatMap fCells)) : FS w v l := by
  rcases h.2 with ⟨rfl, h0⟩ | ⟨g, cap, cur, rfl, hb, hg, q1, q2, q3, q4⟩
  · have : l = [] := List.length_eq_zero_iff.1 h0
    subst this
    exact ⟨none, 0, rfl, Or.inl rfl⟩
  · refine ⟨_, cap, rfl, Or.inr ⟨g, 0, rfl, fun k hk => ?_⟩⟩
    obtain ⟨d0, d1⟩ := fflat_at l k hk
    have c0 := h.cellAt (k * 2) (by omega)
    have c1 := h.cellAt (k * 2 + 1) (by omega)
    rw [Nat.zero_add]
    exact ⟨c0.trans d0, c1.trans d1⟩
theorem row_later {w w' : World} {base e sz n : Nat} {v : Value} {xs : List Value} (h : w.ownsRow base e sz v n xs) (hk : ∀ g cs t fz, v.ownBlock = some g → w.heap[g]? = some (.cells cs t fz) → w'.heap[g]? = w.heap[g]?) : w'.ownsRow base e sz v n xs := by
  refine ⟨h.1, ?_⟩
  rcases h.2 with hn | ⟨g, cap, cur, rfl, hb, hg, rest⟩
  · exact Or.inl hn
  · exact Or.inr ⟨g, cap, cur, rfl, hb, (hk g _ _ _ rfl hg).trans hg, rest⟩
theorem row_below {w w' : World} {base e sz n : Nat} {v : Value} {xs : List Value} (h : w.ownsRow base e sz v n xs) (hb : Below w.heap.size w w') : w'.ownsRow base e sz v n xs := row_later h (fun g cs t fz _ hg => hb.block g (lt_of hg))
theorem row_mv {m : Nat} {w w' : World} {base e sz n : Nat} {v : Value} {xs : List Value} (h : w.ownsRow base e sz v n xs) (hb : Mv m w w') : w'.ownsRow base e sz v n xs := row_later h (fun g cs t fz _ hg => by rw [hb.blk hg, hg])

/- the map -/
theorem law9 : Keyed Tryz.prog 9 := string_keyed Tryz.underlying9
theorem zero63 (w : World) : (zeroValue 184).run Tryz.prog w = .ok (.agg #[.string ⟨#[]⟩]) w := by kernel_rfl
set_option maxRecDepth 100000 in
theorem key9 (s : ByteArray) (hs : s.size ≤ 140737488355328) : keyOf Tryz.prog 9 (.string s) = some (.string (bs s)) := WideMaps.keyOf_string_mk Tryz.underlying9 (by unfold maxLen; omega)
def valS (l : FL) (k : Bs) : ByteArray := mk ((lkp l k).getD [])
set_option maxRecDepth 100000 in
theorem look_run {w : World} {b n : Nat} {l : FL} (h : w.ownsMap Tryz.prog 9 RC b n (toD l)) (s : ByteArray) (hs : s.size ≤ 140737488355328) :
    (Instr.lookup 186 (.map (some b)) (.string s) true).run Tryz.prog w = .ok (.tuple #[.agg #[.string (valS l (bs s))], .bool (ok l (bs s))]) w := by
  obtain ⟨v, ps, hrun, hv⟩ := h.look_ok law9 Tryz.underlying186 (zero63 w) (zd := .lit (.string [])) (zp := []) rfl (key9 s hs)
  rw [hrun, has_D]
  rw [at_D] at hv
  obtain ⟨s', rfl, e⟩ := RC_inv hv
  have e2 : (lkp l (bs s)).getD [] = bs s' := by injection e with e; injection e
  unfold valS
  rw [e2, mk_bs]
set_option maxRecDepth 100000 in
theorem store_run {w : World} {m : Nat} {l : FL} (h : w.ownsMap Tryz.prog 9 RC m l.length (toD l)) (hn : l.length < 140737488355328) (s t : ByteArray) (hs : s.size ≤ 140737488355328) :
    ∃ w', (Instr.mapUpdate 186 (.map (some m)) (.string s) (.agg #[.string t])).run Tryz.prog w = .ok () w' ∧ w'.ownsMap Tryz.prog 9 RC m (withL l (bs s) (bs t)).length (toD (withL l (bs s) (bs t))) ∧ w.mapTurned w' m := by
  obtain ⟨w', hrun, ho, ht⟩ := h.store law9 Tryz.underlying186 (by unfold maxLen; omega) (key9 s hs) (RC_at t)
  rw [put_D] at ho
  exact ⟨w', hrun, owns_norm ho, ht⟩
set_option maxRecDepth 100000 in
theorem drop_run {w : World} {m : Nat} {l : FL} (h : w.ownsMap Tryz.prog 9 RC m l.length (toD l)) (s : ByteArray) (hs : s.size ≤ 140737488355328) (ty : TypeId) :
    ∃ w', (Builtin.delete_ #[186, 9] ty #[.map (some m), .string s]).run Tryz.prog w = .ok (.tuple #[]) w' ∧ w'.ownsMap Tryz.prog 9 RC m (wout l (bs s)).length (toD (wout l (bs s))) ∧ w.mapTurned w' m := by
  obtain ⟨w', hrun, ho, ht⟩ := h.drop law9 Tryz.underlying186 (key9 s hs) ty
  rw [del_D] at ho
  exact ⟨w', hrun, owns_norm ho, ht⟩
end Go.Proofs.YtcgdnpcegcmboaaGreatDoor.DiBase
end
