/- Drop, with the very blocks that it turns; what goes over a rank. -/
import Derived.Test.YtighoelipihifabGreatDoorNames
import Derived.Test.YtighoelipihifabGreatDoorOf
import Derived.RangeFuncNested
import Derived.RangeFuncBound
import Derived.RangeFuncCalls
import Derived.RangeFuncLeaves
import Derived.Shelf.Abstract
import Derived.Shelf.RegionOpen
import Derived.OwnWalkIn
import Derived.TacticsInMore
import Derived.LoopNIn
import Derived.LoopIn
import Derived.Stop.RegionWithIn
import Derived.Laws.EntriesVeiled
namespace Go.Proofs.YtighoelipihifabGreatDoor.OverA
open Go.RowKit Go.Maps Go.Sort Go.Shelf
open Go.Proofs.YtighoelipihifabGreatDoor.MapMath
open Go.Proofs.YtighoelipihifabGreatDoor.RankMath
open Go.Proofs.YtighoelipihifabGreatDoor.RankMath2
open Go.Proofs.YtighoelipihifabGreatDoor.RankMath3
open Go.Proofs.YtighoelipihifabGreatDoor.Base
open Go.Proofs.YtighoelipihifabGreatDoor.Cmp
open Go.Proofs.YtighoelipihifabGreatDoor.Settle
open Go.Proofs.YtighoelipihifabGreatDoor.Without
open Go.Proofs.YtighoelipihifabGreatDoor.Rank1
open Go.Proofs.YtighoelipihifabGreatDoor.Run
set_option linter.unusedVariables false
set_option linter.unusedSimpArgs false
attribute [local go_sem] Oper.semAt_some
def EmS (B m : Nat) (w : World) : Nat → Prop := fun k => k = m ∨ (B ≤ k ∧ (kd w k = 52 + 2 ∨ kd w k = 73 + 2))
def EM (B m : Nat) (w w' : World) : Prop := Mo (EmS B m w) w w'
theorem EM.refl (B m : Nat) (w : World) : EM B m w w := Mo.refl _ _
theorem EM.stay {B m : Nat} {w w' : World} (h : EM B m w w') {k : Nat} {o : Obj} (hk : w.heap[k]? = some o) (hm : k ≠ m) (h1 : kd w k ≠ 52 + 2) (h2 : kd w k ≠ 73 + 2) : w'.heap[k]? = some o :=
  (h.block k (lt_of hk) (by
    rintro (e | ⟨_, e | e⟩)
    · exact hm e
    · exact h1 e
    · exact h2 e)).trans hk
theorem kd_other {w : World} {k : Nat} {o : Obj} (h : w.heap[k]? = some o) (ho : o.isCells = false) (t : Nat) : kd w k ≠ t + 2 := by
  unfold kd
  rw [h]
  cases o <;> first | (simp; done) | cases ho | (intro e; simp at e)
theorem EM.from {B m : Nat} {w w' : World} (h : EM B m w w') {B0 : Nat} (hm : m < B0) : KeepsFrom B0 w w' :=
  ⟨h.size, fun k o hB hk ho => h.stay hk (by omega) (kd_other hk ho _) (kd_other hk ho _)⟩
theorem rx_tree2 {B b m : Nat} {t t' : T} {ml l ml' l' : EL} {w w1 W w2 : World} {L : EL} (h : RX B b m t ml l w) (ht : w.mapTurned w1 m) (hW : Below w1.heap.size w1 W) (hR : Rs L (fun k => k ∈ t.blks) W t' w2) (hm : OM w1 m ml') (ris : Ris ml') (perm : ml'.Perm l') (hl : L = l') (srt : Srt l') (uq : Uq l') (len : ∀ p ∈ l', p.1.length ≤ 140737488355328) (may : AllMay l') :
    RX B b m t' ml' l' (w2.setCell ⟨b, 1, none⟩ t'.ptr) ∧ EM B m w (w2.setCell ⟨b, 1, none⟩ t'.ptr) ∧ w2.cell? ⟨b, 1, none⟩ = some t.ptr ∧ w2.frozen? ⟨b, 1, none⟩ = false := by
  obtain ⟨a1, a2, a3⟩ := rx_map h ht
  have e3 : Mo (fun k => k = m) w w1 := Mo.turned ht rfl
  have hb1 : b < w1.heap.size := lt_of a1
  have hbW : W.heap[b]? = some (.cells #[.map (some m), t.ptr] 52 (0, 0)) := (hW.block b hb1).trans a1
  have hb2 : w2.heap[b]? = some (.cells #[.map (some m), t.ptr] 52 (0, 0)) := (hR.mo.block b (lt_of hbW) h.bt).trans hbW
  have m5 : Mo (fun k => k = b) w2 (w2.setCell ⟨b, 1, none⟩ t'.ptr) := Mo.set (S := fun k => k = b) hb2 rfl _
  have hmW : OM W m ml' := owns_later hm (hW.block m hm.lt)
  have hm2 : OM w2 m ml' := owns_later hmW (hR.mo.block m hmW.lt h.mt)
  have hbt : b ∉ t'.blks := fun hh => (hR.own b hh).elim h.bt (fun q => by have := lt_of hbW; omega)
  have hkd : kd w b = 52 + 2 := kd_cells h.blk
  have hkt : ∀ k ∈ t.blks, EmS B m w k := fun k hk => .inr ⟨h.tb k hk, .inr (h.tr.lt k hk).2⟩
  have ev : EM B m w (w2.setCell ⟨b, 1, none⟩ t'.ptr) := by
    have q1 : Mo (EmS B m w) w W := (e3.mono fun i _ e => .inl e).then_below hW
    have q2 := Mo.trans q1 hR.mo (fun i _ hi => hkt i hi)
    exact Mo.trans q2 m5 (fun i _ hi => by rw [hi]; exact .inr ⟨h.bb, .inl hkd⟩)
  refine ⟨?_, ev, Lib.cell_of_heap hb2 1, Lib.frozen_of_heap hb2 1⟩
  exact ⟨set_at hb2 _, owns_later hm2 (m5.block m hm2.lt (fun e => h.bm e.symm)), ris, perm, hR.tr.mo m5 (fun k hk e => hbt (e ▸ hk)), hR.list.trans hl, hR.nd, srt, uq, len, may, h.bb, h.mb, fun k hk => (hR.own k hk).elim (h.tb k) (fun q => by have := h.bb; have := lt_of hbW; omega)⟩
set_option maxHeartbeats 2000000 in
set_option maxRecDepth 100000 in
theorem drop2_call {B b m : Nat} {t : T} {ml l : EL} {w : World} (h : RX B b m t ml l w) (k : Bs) (hk : k.length ≤ 140737488355328) (hn : l.length ≤ big) : Calls Tryz.prog 15 #[ptr b, .string (mk k)] w fun e w' => e = .returned (.bool (ok l k)) ∧ (∃ t' ml', RX B b m t' ml' (wout l k) w') ∧ EM B m w w' := by
  have H1 := hid_of (score_call ⟨m, t, ml, h⟩ k hk)
  have HR := hid_of h
  cases ho : ok l k with
  | false =>
    rw [ho] at H1
    have HW : Hid (wout l k = l) := hid_of (wout_no ho)
    clear h ho
    unfold ptr
    generalize valI l k = vv at *
    generalize mk k = K at *
    go_enter Tryz.func15, Tryz.ntmps15
    go_wp2_with fail
    refine H1.out.mono ?_
    rintro e w1 hw1
    obtain ⟨rfl, hww⟩ := hw1
    subst hww
    go_wp2_with fail
    go_ret
    exact ⟨rfl, by rw [HW.out]; exact ⟨_, _, HR.out⟩, EM.refl _ _ _⟩
  | true =>
    rw [ho] at H1
    obtain ⟨s, hs⟩ : ∃ s, lkp l k = some s := by unfold ok at ho; exact Option.isSome_iff_exists.1 ho
    have hv : valI l k = s := by unfold valI; rw [hs]; rfl
    rw [hv] at H1
    obtain ⟨w1, hu, hown, hturn⟩ := drop_run h.map (mk k) (by rw [mk_size]; exact hk) 0
    rw [bs_mk] at hown
    obtain ⟨a1, a2, a3⟩ := rx_map h hturn
    have c0 := h.c0
    have d1 : w1.cell? ⟨b, 1, none⟩ = some t.ptr := Lib.cell_of_heap a1 1
    have H2 := hid_of (without_call _ t (k, s) w1 (Nat.le_refl _) a2 h.nd (by rw [h.list]; exact h.srt) (by rw [h.list]; exact hn))
    have HF : Hid (∀ w2 t' q, t'.addr = q ∧ Rs (rmv (k, s) t.list) (fun i => i ∈ t.blks) w1 t' w2 → (∃ t' ml', RX B b m t' ml' (wout l k) (w2.setCell ⟨b, 1, none⟩ (.pointer q))) ∧ EM B m w (w2.setCell ⟨b, 1, none⟩ (.pointer q)) ∧ w2.cell? ⟨b, 1, none⟩ = some t.ptr ∧ w2.frozen? ⟨b, 1, none⟩ = false) := hid_of fun w2 t' q hR => by
      have := rx_tree2 (l' := wout l k) h hturn (Below.refl _ _) hR.2 hown (wout_ris h.ris k) (wout_perm h.perm k) (by rw [h.list]; exact wout_rmv h.uq hs) (wout_srt h.srt k) (wout_uq h.uq k) (fun p hp => h.len p (wout_mem hp)) (fun p hp => h.may p (wout_mem hp))
      unfold T.ptr at this
      rw [hR.1] at this
      exact ⟨⟨_, _, this.1⟩, this.2⟩
    clear h ho hs hv hown hturn a1 a2 a3 HR
    unfold ptr
    unfold T.ptr eV at *
    generalize t.addr = A at *
    generalize mk k = K at *
    go_enter Tryz.func15, Tryz.ntmps15
    go_wp2_with fail
    refine H1.out.mono ?_
    rintro e w0 hw0
    obtain ⟨rfl, hww⟩ := hw0
    subst hww
    go_wp2_with fail
    refine H2.out.mono ?_
    rintro e w2 ⟨q2, t2, rfl, R2⟩
    obtain ⟨f1, f2, f3, f4⟩ := HF.out w2 t2 q2 R2.out
    have F1 := hid_of f1
    have F2 := hid_of f2
    clear f1 f2 HF
    go_wp2_with fail
    go_ret
    exact ⟨rfl, F1.out, F2.out⟩
abbrev Fx (l : EL) : Type := { p : Ent // p ∈ l }
def encF (l : EL) (x : Fx l) : Array Value := #[.string (mk x.1.1), .int .i64 x.1.2]
/- the blocks of which G speaks stand -/
def Kq (G : Nat → Prop) (W W' : World) : Prop := ∀ k, G k → W'.heap[k]? = W.heap[k]?
theorem kq_t {G : Nat → Prop} {A B C : World} (h : Kq G A B) (k : Kq G B C) : Kq G A C := fun i hi => (k i hi).trans (h i hi)
structure FG (G : Nat → Prop) (w : World) (v : Value) (l : EL) : Prop where
  fs : FS w v l
  own : ∀ g o n c, v = .slice (some ⟨g, o, none⟩) n c → 0 < l.length → G g
theorem at_of {G : Nat → Prop} {w : World} {v : Value} {l : EL} (h : FG G w v l) : ∃ a c, v = .slice a l.length c ∧ ∀ k (hk : k < l.length), ∃ g o, a = some ⟨g, o, none⟩ ∧ ∀ W, Kq G w W → W.cell? ⟨g, o + k * 2, none⟩ = some (.string (mk (l[k]'hk).1)) ∧ W.cell? ⟨g, o + k * 2 + 1, none⟩ = some (.int .i64 (l[k]'hk).2) := by
  obtain ⟨⟨a, c, rfl, hlc, hq⟩, ho⟩ := h
  refine ⟨a, c, rfl, fun k hk => ?_⟩
  rcases hq with rfl | ⟨g, o, rfl, hq⟩
  · simp at hk
  · refine ⟨g, o, rfl, fun W hW => ?_⟩
    have hb := hW g (ho g o _ _ rfl (by omega))
    have e : ∀ j x, w.cell? ⟨g, j, none⟩ = some x → W.cell? ⟨g, j, none⟩ = some x := fun j x hx => by
      unfold World.cell? at hx ⊢
      rw [hb]
      exact hx
    exact ⟨e _ _ (hq k hk).1, e _ _ (hq k hk).2⟩
def xsOf (l : EL) (k : Nat) : List (Fx l) := (l.attach).take k
theorem xs_map (l : EL) (k : Nat) : (xsOf l k).map (·.1) = l.take k := by
  unfold xsOf
  rw [List.map_take, List.attach_map_subtype_val]
theorem xs_len (l : EL) (k : Nat) (h : k ≤ l.length) : (xsOf l k).length = k := by unfold xsOf; simp; omega
theorem xs_snoc (l : EL) (k : Nat) (h : k < l.length) : xsOf l (k + 1) = xsOf l k ++ [⟨l[k]'h, List.getElem_mem h⟩] := by
  unfold xsOf
  rw [List.take_succ_eq_append_getElem (by simpa using h)]
  simp
set_option maxRecDepth 100000 in
set_option maxHeartbeats 4000000 in
theorem iter_stops (n : Nat) (hn : 1 ≤ n) (G : Nat → Prop) (Bx : Nat) (v : Value) (l : EL) (w : World) (hl : l.length < 140737488355328) (hB : G Bx) (hG : ∀ k, G k → k < w.heap.size) (hc : w.cell? ⟨Bx, 0, none⟩ = some v) (hf : FG G w v l) :
    SeqStopsK Fence.wide n Tryz.prog 33 #[.pointer (some ⟨Bx, 0, none⟩)] (encF l) (Kq G) (fun xs => xs = xsOf l l.length) (fun pre => ∃ k, k < l.length ∧ pre = xsOf l (k + 1)) l.length w := fun lp J Jx W hW hJ hJx hY h0 => by
  have hkW : Kq G w W := fun k hk => hW.block k (hG k hk)
  have hcW : W.cell? ⟨Bx, 0, none⟩ = some v := cell_on hW hc
  obtain ⟨a, c, rfl, hat⟩ := at_of hf
  have HA := hid_of hat
  have HJ := hid_of hJ
  have HY := hid_of hY
  clear hat hf hc hY hJ hJx
  refine callsIn_of_wp Tryz.func33 rfl trivial ?_ rfl
  simp only [Tryz.ntmps33, List.size_toArray, List.length_cons, List.length_nil, Nat.reduceAdd, Nat.reduceSub, Array.replicate_succ, Array.replicate_zero, List.push_toArray, List.append_toArray, List.nil_append, List.cons_append]
  gi_wp2_with fail
  gi_loopw [7] (fun si wr => ∃ k : Nat, k ≤ l.length ∧ si = .int .i64 (k : Int) ∧ Hid (J (xsOf l k) wr) ∧ Hid (Kq G w wr)) (fun si wr => l.length - (intOf si).toNat)
  case atStart => exact ⟨0, by omega, rfl, hid_of (by simpa [xsOf] using h0), hid_of hkW⟩
  case round =>
    obtain ⟨k, hk, rfl, HJk, HK⟩ := hrel
    by_cases hlt : k < l.length
    · obtain ⟨g, o, rfl, hcl⟩ := HA.out k hlt
      obtain ⟨c0, c1⟩ := hcl wr HK.out
      have e2 : IntKind.i64.wrap ((k : Int) + 1) = (k : Int) + 1 := IntWalk.i64_in _ (by omega)
      have g2 : (k : Int) < (l.length : Int) := by omega
      have hJa : J (xsOf l k) (wr.alloc (.cells #[.string (mk (l[k]'hlt).1), .int .i64 (l[k]'hlt).2] 35)) := HJ.out _ _ _ none HJk.out (World.grownBy_alloc wr _ none) (fun r e => by cases e)
      obtain ⟨fn, tmps, assign, body, hy, hR⟩ := HY.out (xsOf l k) ⟨l[k]'hlt, List.getElem_mem hlt⟩ _ hJa (by rw [xs_len l k hk]; exact hlt)
      rw [← xs_snoc l k hlt] at hR
      have KA : Hid (Kq G w (wr.alloc (.cells #[.string (mk (l[k]'hlt).1), .int .i64 (l[k]'hlt).2] 35))) := hid_of (kq_t HK.out (fun i hi => Below.heap_alloc wr _ i (by
        have h1 := HK.out i hi
        rw [Array.getElem?_eq_getElem (hG i hi)] at h1
        exact lt_of h1)))
      unfold encF at hy
      dsimp only at hy
      have HR := hid_of hR
      clear hR hJa hcl
      generalize mk (l[k]'hlt).1 = X at *
      generalize (l[k]'hlt).2 = Y at *
      gi_wp2
      refine HR.out.mono ?_
      rintro e W3 (⟨rfl, hJ3, hk3⟩ | ⟨rfl, hJx3⟩)
      · have HJ3 := hid_of hJ3
        have HK3 := hid_of (kq_t KA.out hk3)
        clear hJ3 hk3
        gi_wp2
        go_roundw
        case rel => exact ⟨k + 1, by omega, by rw [show ((k + 1 : Nat) : Int) = (k : Int) + 1 from by omega], HJ3, HK3⟩
        case measure => simp [intOf]; omega
      · gi_wp2
        refine bodyPost_ret (results_none rfl _ _ _) rfl ?_
        exact ⟨⟨_, rfl⟩, .inr ⟨_, ⟨k, hlt, rfl⟩, hJx3⟩⟩
    · obtain rfl : k = l.length := by omega
      have gi : ¬ (l.length : Int) < (l.length : Int) := by omega
      gi_wp2
      go_end0
      exact ⟨⟨_, rfl⟩, .inl HJk.out⟩
def AllE (l : EL) (w : World) (e : Ending) (w' : World) : Prop := ∃ Bx v, e = .returned (.func (.func 33) #[] #[.pointer (some ⟨Bx, 0, none⟩)]) ∧ w'.heap[Bx]? = some (.cells #[v] 22 (0, 0)) ∧ w.heap.size ≤ Bx ∧ OR w.heap.size w' v l ∧ Below w.heap.size w w'
set_option maxRecDepth 100000 in
set_option maxHeartbeats 1000000 in
theorem all_call {B b : Nat} {l : EL} {w : World} (h : RK B b l w) (hn : l.length ≤ big) : Calls Tryz.prog 13 #[ptr b] w fun e w' => AllE l w e w' := by
  have H1 := hid_of (list_call h hn)
  clear h
  unfold ptr
  go_enter Tryz.func13, Tryz.ntmps13
  go_wp2_with fail
  refine H1.out.mono ?_
  rintro e w1 ⟨v, rfl, o1, b1⟩
  have bA : Below w1.heap.size w1 (w1.alloc (.cells #[v] 22)) := bnew w1 _
  have HO := hid_of (row_below o1 bA)
  have HB := hid_of (Base.bel b1 bA (Nat.le_refl _))
  have HX := hid_of (heap_alloc_new w1 (.cells #[v] 22))
  have HS := hid_of b1.size
  obtain ⟨a, c, hv, _⟩ := id (fs_row o1)
  subst hv
  clear o1 b1 bA
  go_wp2_with fail
  go_ret
  exact ⟨w1.heap.size, _, rfl, HX.out, HS.out, HO.out, HB.out⟩
end Go.Proofs.YtighoelipihifabGreatDoor.OverA
