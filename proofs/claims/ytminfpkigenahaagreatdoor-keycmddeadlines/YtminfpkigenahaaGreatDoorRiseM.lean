/- rising$1: the iterator over a row's entries in their order, as a word of Range. -/
import Derived.Test.YtminfpkigenahaaGreatDoorEdgeM
import Derived.Test.YtminfpkigenahaaGreatDoorSectM
import Derived.Test.YtminfpkigenahaaGreatDoorSpaceMathM
import Derived.Deep.LoopGhost
import Derived.TacticsInMore
import Derived.LoopNIn
import Derived.LoopIn
import Derived.OwnWalkIn
namespace Go.Proofs.YtminfpkigenahaaGreatDoor.Rise
open Go.RowKit Go.Maps
open Go.Proofs.YtminfpkigenahaaGreatDoor.HeapMath
open Go.Proofs.YtminfpkigenahaaGreatDoor.Heap
open Go.Proofs.YtminfpkigenahaaGreatDoor.Turn
open Go.Proofs.YtminfpkigenahaaGreatDoor.Before
open Go.Proofs.YtminfpkigenahaaGreatDoor.Base (mk mk_list)
open Go.Proofs.YtminfpkigenahaaGreatDoor.RowB
open Go.Proofs.YtminfpkigenahaaGreatDoor.Edge
open Go.Proofs.YtminfpkigenahaaGreatDoor.Range
open Go.Proofs.YtminfpkigenahaaGreatDoor.NextFL (first_least)
set_option linter.unusedVariables false
set_option linter.unusedSimpArgs false
theorem pigeon : ∀ (n : Nat) (l : List Nat), l.Nodup → (∀ p ∈ l, p < n) → l.length ≤ n
  | 0, l, _, h => by
    cases l with
    | nil => exact Nat.le_refl _
    | cons a r => exact absurd (h a (by simp)) (by omega)
  | n + 1, l, hn, h => by
    have ih := pigeon n (l.erase n) (hn.erase n) (fun p hp => by
      have q := hn.mem_erase_iff.1 hp
      have := h p q.2
      have := q.1
      omega)
    have := List.length_erase (a := n) (l := l)
    split at this <;> omega
section
variable {α : Type} [Inhabited α] {lt : α → α → Prop}
theorem all_done (o : STO lt) {l S : List α} (hl : l.Nodup) (hS : Sorted lt l S) (hh : Hp lt l l.length) {done : List Nat} (h : Near l.length done []) (hd : done.map (pl l) = S.take done.length) : S.take done.length = S := by
  rcases Nat.lt_or_ge done.length S.length with hk | hk
  · exfalso
    have hSn : S.Nodup := hS.perm.nodup_iff.2 hl
    obtain ⟨p, hp, ep⟩ := mem_pl (hS.perm.mem_iff.1 (List.getElem_mem hk))
    have hpd : p ∈ done := Classical.byContradiction fun q => by
      obtain ⟨r, hr, _⟩ := h.reach o hh p hp q
      cases hr
    have : pl l p ∈ done.map (pl l) := List.mem_map_of_mem hpd
    rw [hd, ep] at this
    obtain ⟨i, hi, ei⟩ := List.mem_take_iff_getElem.1 this
    have := nodup_inj hSn (by omega) hk ei
    omega
  · exact List.take_of_length_le hk
end
/- what a round must leave: the blocks of G, and cells of the edge's types from N on -/
structure Kp (G : List Nat) (N : Nat) (A A' : World) : Prop where
  size : A.heap.size ≤ A'.heap.size
  own : ∀ k ∈ G, A'.heap[k]? = A.heap[k]?
  typ : ∀ k, N ≤ k → ∀ cs t fz, A.heap[k]? = some (.cells cs t fz) → t = 215 ∨ t = 3 → A'.heap[k]? = A.heap[k]?
theorem Kp.trans {G : List Nat} {N : Nat} {A B C : World} (h : Kp G N A B) (k : Kp G N B C) : Kp G N A C :=
  ⟨Nat.le_trans h.size k.size, fun i hi => (k.own i hi).trans (h.own i hi), fun i hi cs t fz e ht => by
    have q := h.typ i hi cs t fz e ht
    exact (k.typ i hi cs t fz (q.trans e) ht).trans q⟩
theorem EG.kp {B e g c N : Nat} {G : List Nat} {l : Es} {w w' : World} {ps : List Nat} (h : EG B e g c l w ps) (hN : N ≤ B) (hg : g ∈ G) (k : Kp G N w w') : EG B e g c l w' ps := by
  obtain ⟨pv, h1, h2⟩ := h.box
  refine ⟨⟨pv, (k.typ e (Nat.le_trans hN h.be) _ _ _ h1 (.inl rfl)).trans h1, ⟨h2.1, h2.2.imp id ?_⟩⟩, h.be, h.hg, Nat.le_trans h.bw k.size, h.ent.keep (k.own g hg), h.ins, h.small, h.wide⟩
  rintro ⟨q, cap, cur, e', hb, hq, r⟩
  exact ⟨q, cap, cur, e', hb, (k.typ q (Nat.le_trans hN hb) _ _ _ hq (.inr rfl)).trans hq, r⟩
/- the state between two rounds -/
structure ST (B e g c : Nat) (l S : Es) (J : Es → World → Prop) (done ps : List Nat) (w : World) : Prop where
  eg : EG B e g c l w ps
  hp : Hp (ltP l) ps ps.length
  nr : Near l.length done ps
  took : done.map (pl l) = S.take done.length
  j : J (S.take done.length) w
/- the row's own cells -/
structure FX (Bx b g c : Nat) (l : Es) (w : World) : Prop where
  box : w.cell? ⟨Bx, 0, none⟩ = some (.pointer (some ⟨b, 0, none⟩))
  row : w.cell? ⟨b, 0, none⟩ = some (.slice (some ⟨g, 0, none⟩) l.length c)
  ent : EN g l w
theorem FX.keep {Bx b g c : Nat} {l : Es} {w w' : World} (h : FX Bx b g c l w) (hk : ∀ k, k = Bx ∨ k = b ∨ k = g → w'.heap[k]? = w.heap[k]?) : FX Bx b g c l w' :=
  ⟨(World.cell?_of_block (a := ⟨Bx, 0, none⟩) (hk _ (.inl rfl))).trans h.box, (World.cell?_of_block (a := ⟨b, 0, none⟩) (hk _ (.inr (.inl rfl)))).trans h.row, h.ent.keep (hk _ (.inr (.inr rfl)))⟩
theorem FX.tr {Bx b g c B : Nat} {l : Es} {w w' : World} (h : FX Bx b g c l w) (hB : B ≤ w.heap.size) (h1 : Bx < B) (h2 : b < B) (h3 : g < B) (t : Tr B w w') : FX Bx b g c l w' :=
  h.keep fun k hk => by
    have : k < B := by rcases hk with rfl | rfl | rfl <;> assumption
    exact t.block k (by omega) (.inl this)
theorem perm_erase {m : Nat} {ps l' : List Nat} (h : (l' ++ [m]).Perm ps) : l'.Perm (ps.erase m) := by
  have h1 : (m :: l').Perm ps := (List.perm_append_comm (l₁ := [m]) (l₂ := l')).trans h
  have h2 := h1.erase m
  simpa using h2
set_option maxHeartbeats 4000000 in
set_option maxRecDepth 100000 in
theorem rise_pos {Bx b g c N n : Nat} {l S : Es} {L : Nat} {J Jx : Es → World → Prop} {W : World} (h0 : 0 < l.length) (hw : l.length + 1 < 1099511627776) (nd : l.Nodup) (hh : Hp ltS l l.length) (hS : Sorted ltS l S) (tot : ∀ a b : Bs × Int, a ≠ b → ltS a b ∨ ltS b a)
    (fx : FX Bx b g c l W) (lx : Bx < W.heap.size) (lb : b < W.heap.size) (lg : g < W.heap.size) (hN : N ≤ W.heap.size)
    (hJ : ∀ s A A', J s A → Tr W.heap.size A A' → J s A')
    (hY : ∀ pre x W1, J pre W1 → pre.length < S.length → YieldAt Fence.wide (n - 1) Tryz.prog L #[eS x] W1 fun e W' => (e = .returned (.bool true) ∧ J (pre ++ [x]) W' ∧ Kp [Bx, b, g] N W1 W') ∨ (e = .returned (.bool false) ∧ Jx (pre ++ [x]) W'))
    (hJ0 : J [] W) :
    Calls Tryz.prog 156 #[.func (.yield L) #[] #[], .pointer (some ⟨Bx, 0, none⟩)] W fun e W' => (∃ v, e = .returned v) ∧ ((∃ xs, xs = S ∧ J xs W') ∨ ∃ pre, pre <+: S ∧ Jx pre W') := by
  obtain ⟨B, hB⟩ : ∃ B, B = W.heap.size := ⟨_, rfl⟩
  have f1 := fx.box
  have f2 := fx.row
  have FXH := hid_of fx
  have HHh := hid_of hh
  have HY := hid_of hY
  have HJ := hid_of hJ
  have HJ0 := hid_of hJ0
  have HSo := hid_of hS
  have HTot := hid_of tot
  have HNd := hid_of nd
  have HLs := hid_of (And.intro lx (And.intro lb (And.intro lg hN)))
  clear fx hh hY hJ hJ0 hS tot nd lx lb lg hN
  have eg0 : EG W.heap.size W.heap.size g c l (W.alloc (.cells #[.slice (some ⟨g, 0, none⟩) l.length c, .slice none 0 0] 215)) [] :=
    ⟨⟨_, heap_alloc_new W _, ⟨rfl, .inl ⟨rfl, rfl⟩⟩⟩, Nat.le_refl _, HLs.out.2.2.1, by simp, FXH.out.ent.keep (Below.heap_alloc _ _ g HLs.out.2.2.1), by simp, by simp, by omega⟩
  have t0 : Tr W.heap.size W (W.alloc (.cells #[.slice (some ⟨g, 0, none⟩) l.length c, .slice none 0 0] 215)) := Tr.of_below ((Below.refl _ W).alloc (Nat.le_refl _) _)
  have H0 := hid_of (reach_call eg0 (fun i _ hi => absurd hi (by simp)) 0 (by simp) (by omega))
  have HT0 := hid_of t0
  have HW := hid_of hw
  have HP := hid_of h0
  clear eg0 t0 hB h0
  go_enter Tryz.func156, Tryz.ntmps156
  go_wp2_with fail
  refine H0.out.mono ?_
  rintro r w1 ⟨rfl, ⟨ps0, e0, p0, q0⟩, t1⟩
  have HST : Hid (ST W.heap.size W.heap.size g c l S J [] ps0 w1 ∧ FX Bx b g c l w1) := by
    have hp0 : ps0 = [0] := by rw [if_pos HP.out] at q0; exact List.perm_singleton.1 q0
    have tt := HT0.out.trans t1
    refine hid_of ⟨⟨e0, p0, ?_, by simp, by simpa using HJ.out _ _ _ HJ0.out tt⟩, FXH.out.tr (Nat.le_refl _) HLs.out.1 HLs.out.2.1 HLs.out.2.2.1 tt⟩
    have := Near.start l.length
    rw [if_pos HP.out] at this
    rw [hp0]
    exact this
  clear e0 p0 q0 t1 H0 HT0 f1 f2
  go_wp2_with fail
  go_loopg [] S.length (fun gk wx => ∃ (done ps : List Nat), Hid (done.length + gk = S.length ∧ ST W.heap.size W.heap.size g c l S J done ps wx ∧ FX Bx b g c l wx))
  case atStart => exact ⟨[], ps0, hid_of ⟨by simp, HST.out⟩⟩
  case round =>
    obtain ⟨done, ps, I⟩ := hrel
    clear HST
    have HL := hid_of (len_call I.out.2.1.eg)
    refine (wpIn_wide (n := n)).1 ?_
    rcases (show ps.length = 0 ∨ 0 < ps.length by omega) with hps | hps
    · rw [hps] at HL
      gi_wp2_with fail
      refine ⟨trivial, (fun q => by cases q), callsIn_wide.2 (HL.out.mono ?_)⟩
      rintro r w2 ⟨rfl, rfl⟩
      gi_wp2_with fail
      go_end0
      have hnil := List.length_eq_zero_iff.1 hps
      have st := I.out.2.1
      rw [hnil] at st
      have hall := all_done (ent_sto keysS) HNd.out HSo.out HHh.out st.nr st.took
      exact ⟨⟨_, rfl⟩, .inl ⟨S, rfl, by have := st.j; rwa [hall] at this⟩⟩
    · have c1 : (0 : Int) < (ps.length : Int) := by omega
      have HPop := hid_of (popEdgeS (sto_p l) (ptr W.heap.size) (thingE W.heap.size W.heap.size g c l) wr ps I.out.2.1.eg hps I.out.2.1.eg.small I.out.2.1.hp)
      obtain ⟨m, hm⟩ : ∃ m, m = pl ps 0 := ⟨_, rfl⟩
      have mem : m ∈ ps := by rw [hm, pl_in hps]; exact List.getElem_mem hps
      have hml : m < l.length := I.out.2.1.eg.ins m mem
      obtain ⟨hk, hx⟩ := next_is (ent_sto keysS) HTot.out HNd.out HSo.out HHh.out I.out.2.1.nr I.out.2.1.took mem (fun q hq => by
        obtain ⟨i, hi, e⟩ := List.getElem_of_mem hq
        have := first_least (sto_p l) I.out.2.1.hp i i (Nat.le_refl _) hi
        rw [← hm, pl_in hi, e] at this
        exact this)
      obtain ⟨x, hx'⟩ : ∃ x, x = pl l m := ⟨_, rfl⟩
      rw [← hm] at HPop
      have HM := hid_of (show m = pl ps 0 ∧ m ∈ ps ∧ (∃ hk : done.length < S.length, S[done.length] = pl l m) ∧ x = pl l m from ⟨hm, mem, ⟨hk, hx⟩, hx'⟩)
      have hmb : m < 1099511627776 := by have := hw; omega
      have d1 : (m : Int) < (l.length : Int) := by omega
      clear hm mem hx hk hx'
      unfold ptr at HPop
      gi_wp2_with fail
      refine ⟨trivial, (fun q => by cases q), callsIn_wide.2 (HL.out.mono ?_)⟩
      rintro r w2 ⟨rfl, rfl⟩
      gi_wp2_with fail
      refine ⟨trivial, (fun q => by cases q), callsIn_wide.2 (HPop.out.mono ?_)⟩
      rintro r w3 ⟨rfl, ⟨l', e3, p3, q3⟩, t3⟩
      have fx3 := I.out.2.2.tr I.out.2.1.eg.bw HLs.out.1 HLs.out.2.1 HLs.out.2.2.1 t3
      have g1 := fx3.box
      have g2 := fx3.row
      obtain ⟨g3, g4⟩ := fx3.ent m hml
      have q3' := isInt (iv m)
      have hxm : l[m] = x := by rw [HM.out.2.2.2, pl_in hml]
      rw [hxm] at g3 g4
      have hlen : (S.take done.length).length = done.length := by rw [List.length_take]; obtain ⟨hk, _⟩ := HM.out.2.2.1; omega
      obtain ⟨fn, tmps, assign, body, hy, hR⟩ := HY.out (S.take done.length) x w3 (HJ.out _ _ _ I.out.2.1.j t3) (by rw [hlen]; exact HM.out.2.2.1.1)
      have htk : S.take done.length ++ [x] = S.take (done.length + 1) := by
        obtain ⟨hk, hx⟩ := HM.out.2.2.1
        rw [HM.out.2.2.2, ← hx]
        exact (List.take_succ_eq_append_getElem hk).symm
      rw [htk] at hR
      rw [show eS x = .agg #[.string (mk x.1), .int .i64 x.2] from rfl] at hy
      obtain ⟨kx, hkx⟩ : ∃ kx, kx = mk x.1 := ⟨_, rfl⟩
      obtain ⟨tx, htx⟩ : ∃ tx, tx = x.2 := ⟨_, rfl⟩
      rw [← hkx, ← htx] at hy
      rw [← hkx] at g3
      rw [← htx] at g4
      have HR := hid_of hR
      have H3 := hid_of (And.intro e3 (And.intro p3 (And.intro q3 (And.intro t3 fx3))))
      clear hR hkx htx htk hlen hxm e3 p3 q3 t3 fx3
      gi_wp2_with fail
      refine ⟨(fun q => by cases q), HR.out.mono ?_⟩
      rintro r w4 (⟨rfl, j4, k4⟩ | ⟨rfl, j4⟩)
      · have e4 := EG.kp H3.out.1 HLs.out.2.2.2 (by simp) k4
        have fx4 := H3.out.2.2.2.2.keep fun k hk => k4.own k (by simpa using hk)
        have hnl : ps.length ≤ l.length := by
          have := pigeon l.length _ I.out.2.1.nr.nodup I.out.2.1.nr.lt
          simp at this
          omega
        have hl1 : l'.length + 1 = ps.length := by have := H3.out.2.2.1.length_eq; simpa using this
        obtain ⟨j1, HJ1⟩ : ∃ j1, Hid (j1 = 2 * m + 1) := ⟨_, hid_of rfl⟩
        have hj1 : 2 * (m : Int) + 1 = (j1 : Int) := by rw [HJ1.out]; omega
        obtain ⟨j2, HJ2⟩ : ∃ j2, Hid (j2 = 2 * m + 2) := ⟨_, hid_of rfl⟩
        have hj2 : 2 * (m : Int) + 2 = (j2 : Int) := by rw [HJ2.out]; omega
        have HR1 := hid_of (reach_call e4 H3.out.2.1 j1 (by omega) (by rw [HJ1.out]; omega))
        have H4 := hid_of (And.intro j4 (And.intro fx4 (And.intro hnl (And.intro hl1 e4.bw))))
        unfold ptr at HR1
        clear j4 k4 e4 fx4 hnl hl1 hy
        gi_wp2_with fail
        refine ⟨trivial, (fun q => by cases q), callsIn_wide.2 (HR1.out.mono ?_)⟩
        rintro r w5 ⟨rfl, ⟨ps1, e5, p5, q5⟩, t5⟩
        have hl2 : ps1.length ≤ ps.length := by
          have a := q5.length_eq
          have b := H4.out.2.2.2.1
          rw [List.length_append] at a
          have c : (if j1 < l.length then [j1] else []).length ≤ 1 := by split <;> simp
          omega
        have HR2 := hid_of (reach_call e5 p5 j2 (by have := H4.out.2.2.1; omega) (by rw [HJ2.out]; omega))
        have H5 := hid_of (And.intro e5 (And.intro q5 t5))
        unfold ptr at HR2
        clear e5 p5 q5 t5 hl2
        gi_wp2_with fail
        refine ⟨trivial, (fun q => by cases q), callsIn_wide.2 (HR2.out.mono ?_)⟩
        rintro r w6 ⟨rfl, ⟨ps2, e6, p6, q6⟩, t6⟩
        have HN : Hid ((done ++ [m]).length + (gk - 1) = S.length ∧ ST W.heap.size W.heap.size g c l S J (done ++ [m]) ps2 w6 ∧ FX Bx b g c l w6) := by
          have t46 := H5.out.2.2.trans t6
          have hk := HM.out.2.2.1.1
          have hsum := I.out.1
          have el : (done ++ [m]).length = done.length + 1 := by simp
          refine hid_of ⟨by rw [el]; omega, ⟨e6, p6, I.out.2.1.nr.step HM.out.2.1 ?_, ?_, ?_⟩, H4.out.2.1.tr ?_ HLs.out.1 HLs.out.2.1 HLs.out.2.2.1 t46⟩
          · have a1 := q6.trans (H5.out.2.1.append_right _)
            have a2 := (perm_erase H3.out.2.2.1).append_right (kids l.length m)
            refine a1.trans (List.Perm.trans ?_ a2)
            unfold kids
            rw [HJ1.out, HJ2.out, List.append_assoc]
          · rw [el, List.map_append, I.out.2.1.took, ← List.take_append_getElem hk]
            simp [HM.out.2.2.1.2]
          · rw [el]; exact HJ.out _ _ _ H4.out.1 t46
          · exact H4.out.2.2.2.2
        have hgk : 0 < gk := by have := HM.out.2.2.1.1; have := I.out.1; omega
        clear e6 p6 q6 t6
        gi_wp2_with fail
        go_roundg (gk - 1)
        case rel => exact ⟨_, _, HN⟩
        case measure => omega
      · gi_wp2_with fail
        refine bodyPost_ret (results_none rfl _ _ _) rfl ?_
        exact ⟨⟨_, rfl⟩, .inr ⟨_, List.take_prefix _ _, j4⟩⟩
theorem rise_seq {Bx b g c : Nat} {l S : Es} {w : World} (n : Nat) (h0 : 0 < l.length) (hw : l.length + 1 < 1099511627776) (nd : l.Nodup) (hh : Hp ltS l l.length) (hS : Sorted ltS l S) (tot : ∀ a b : Bs × Int, a ≠ b → ltS a b ∨ ltS b a)
    (fx : FX Bx b g c l w) (lx : Bx < w.heap.size) (lb : b < w.heap.size) (lg : g < w.heap.size) (N : Nat) (hN : N ≤ w.heap.size) :
    SeqR Tr n Tryz.prog 156 #[.pointer (some ⟨Bx, 0, none⟩)] (fun x => #[eS x]) (Kp [Bx, b, g] N) (fun xs => xs = S) (fun pre => pre <+: S) S.length w := fun L J Jx W hW hJ _ hY hJ0 => by
  have hs := hW.size
  exact rise_pos (n := n) h0 hw nd hh hS tot (fx.keep fun k hk => hW.block k (by rcases hk with rfl | rfl | rfl <;> assumption)) (by omega) (by omega) (by omega) (by omega) hJ hY hJ0
end Go.Proofs.YtminfpkigenahaaGreatDoor.Rise
