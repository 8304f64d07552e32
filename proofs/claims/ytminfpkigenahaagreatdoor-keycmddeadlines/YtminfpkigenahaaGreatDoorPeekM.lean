/- Peek over texts: what its rounds keep, and the walk. Peek of an index over texts, whatever now and most are. -/
import Derived.Test.YtminfpkigenahaaGreatDoorRiseM
import Derived.RangeFuncFrom
import Derived.Deep.RegionLaw
import Derived.Shelf.Abstract
import Derived.Test.YtminfpkigenahaaGreatDoorCallRowSM
section
namespace Go.Proofs.YtminfpkigenahaaGreatDoor.Peek
open Go.RowKit Go.Maps Go.Shelf
attribute [local go_sem] Oper.semAt_some
open Go.Proofs.YtminfpkigenahaaGreatDoor.HeapMath
open Go.Proofs.YtminfpkigenahaaGreatDoor.Heap
open Go.Proofs.YtminfpkigenahaaGreatDoor.Turn
open Go.Proofs.YtminfpkigenahaaGreatDoor.Before
open Go.Proofs.YtminfpkigenahaaGreatDoor.Base (mk mk_list)
open Go.Proofs.YtminfpkigenahaaGreatDoor.RowB
open Go.Proofs.YtminfpkigenahaaGreatDoor.Edge
open Go.Proofs.YtminfpkigenahaaGreatDoor.Range
open Go.Proofs.YtminfpkigenahaaGreatDoor.Rise
set_option linter.unusedVariables false
set_option linter.unusedSimpArgs false
abbrev sv (k : Bs) : Value := .string (mk k)
/- Peek's own blocks: now, most, what is gathered; the box of the row -/
structure PI (w : World) (b B kn km kk Bx : Nat) (now most : Int) (ks : List Bs) (W : World) : Prop where
  bel : Below w.heap.size w W
  size : B ≤ W.heap.size
  ln : kn < B
  lm : km < B
  lk : kk < B
  lx : Bx < B
  wB : w.heap.size ≤ B
  wk : w.heap.size ≤ kk
  cn : W.heap[kn]? = some (.cells #[.int .i64 now] 3 (0, 0))
  cm : W.heap[km]? = some (.cells #[.int .i64 most] 3 (0, 0))
  bx : W.heap[Bx]? = some (.cells #[.pointer (some ⟨b, 0, none⟩)] 98 (0, 0))
  keys : ∃ v, W.heap[kk]? = some (.cells #[v] 26 (0, 0)) ∧ W.ownsRow w.heap.size 9 1 v ks.length (ks.map sv)
section
variable {w : World} {b B kn km kk Bx : Nat} {now most : Int} {ks : List Bs} {W W' : World}
theorem PI.keep (h : PI w b B kn km kk Bx now most ks W) (hb : Below w.heap.size w W') (hs : W.heap.size ≤ W'.heap.size) (hk : ∀ k cs t fz, W.heap[k]? = some (.cells cs t fz) → (k < B ∨ t = 9) → W'.heap[k]? = some (.cells cs t fz)) : PI w b B kn km kk Bx now most ks W' := by
  obtain ⟨v, h1, h2⟩ := h.keys
  refine ⟨hb, Nat.le_trans h.size hs, h.ln, h.lm, h.lk, h.lx, h.wB, h.wk, hk _ _ _ _ h.cn (.inl h.ln), hk _ _ _ _ h.cm (.inl h.lm), hk _ _ _ _ h.bx (.inl h.lx), v, hk _ _ _ _ h1 (.inl h.lk), h2.1, h2.2.imp id ?_⟩
  rintro ⟨g', cap, cur, e', hb', hg', r⟩
  exact ⟨g', cap, cur, e', hb', hk _ _ _ _ hg' (.inr rfl), r⟩
theorem PI.grown {row : Option Nat} (h : PI w b B kn km kk Bx now most ks W) (hg : W.grownBy W' row) (hr : ∀ r, row = some r → B ≤ r ∧ ∃ o : Obj, W.heap[r]? = some o ∧ o.isCells = false) : PI w b B kn km kk Bx now most ks W' :=
  h.keep (h.bel.grown hg h.bel.size (fun j hj => Nat.le_trans h.wB (hr j hj).1)) hg.size fun k cs t fz hk _ => (hg.block k (lt_of hk) (fun e => by
    obtain ⟨_, o, ho, hc⟩ := hr k e.symm
    rw [hk] at ho
    cases ho
    cases hc)).trans hk
theorem pi_own (f : Es → List Bs) : OwnFrom B (fun (pre : Es) W => PI w b B kn km kk Bx now most (f pre) W) := fun s W W' row hs hg hr => hs.grown hg hr
theorem PI.tr (h : PI w b B kn km kk Bx now most ks W) (t : Tr (B + 2) W W') : PI w b B kn km kk Bx now most ks W' :=
  h.keep ⟨t.os.trans h.bel.os, t.tape.trans h.bel.tape, t.output.trans h.bel.output, Nat.le_trans h.bel.size t.size, fun k hk => (t.block k (Nat.lt_of_lt_of_le hk h.bel.size) (.inl (by have := h.wB; omega))).trans (h.bel.block k hk)⟩ t.size fun k cs ty fz hk ho => (t.block k (lt_of hk) (by
    rcases ho with q | q
    · exact .inl (by omega)
    · refine .inr fun cs' t' fz' e => ?_
      rw [hk] at e
      injection e with e
      injection e with _ e
      rw [← e, q]
      decide)).trans hk
end
def keysOf (l : Es) : List Bs := l.map (·.1)
/- what the rounds come to -/
def got (S : Es) (now most : Int) : Es := (S.takeWhile (fun x => decide (x.2 ≤ now))).take most.toNat
theorem tw_all {S : Es} {now : Int} : ∀ {p : Es}, p <+: S → (∀ y ∈ p, y.2 ≤ now) → S.takeWhile (fun x => decide (x.2 ≤ now)) = p ++ (S.drop p.length).takeWhile (fun x => decide (x.2 ≤ now)) := by
  rintro p ⟨r, rfl⟩ h
  rw [List.drop_left, List.takeWhile_append_of_pos (fun y hy => decide_eq_true (h y hy))]
theorem got_done {S : Es} {now most : Int} (h : ∀ y ∈ S, y.2 ≤ now) (hm : (S.length : Int) < most) : got S now most = S := by
  unfold got
  rw [tw_all (List.prefix_refl S) h, List.drop_length, List.takeWhile_nil, List.append_nil]
  exact List.take_of_length_le (by omega)
theorem got_late {S p : Es} {x : Bs × Int} {now most : Int} (hp : p ++ [x] <+: S) (h : ∀ y ∈ p, y.2 ≤ now) (hx : now < x.2) (hm : (p.length : Int) < most) : got S now most = p := by
  unfold got
  obtain ⟨r, rfl⟩ := hp
  rw [tw_all (p := p) ⟨[x] ++ r, by simp⟩ h]
  have : ((p ++ [x] ++ r).drop p.length) = x :: r := by simp
  rw [this, List.takeWhile_cons_of_neg (by simp; omega), List.append_nil]
  exact List.take_of_length_le (by omega)
theorem got_full {S p : Es} {now most : Int} (hp : p <+: S) (h : ∀ y ∈ p, y.2 ≤ now) (hm : (p.length : Int) = most) : got S now most = p := by
  unfold got
  rw [tw_all hp h, show most.toNat = p.length by omega]
  simp
section
variable {w : World} {b B kn km kk Bx : Nat} {now most : Int} {ks : List Bs} {V : World}
theorem PI.step (h : PI w b B kn km kk Bx now most ks V) {vg : Value} (hv1 : V.heap[kk]? = some (.cells #[vg] 26 (0, 0))) (hv2 : V.ownsRow w.heap.size 9 1 vg ks.length (ks.map sv)) (k : Bs) {w1 : World} {v' : Value}
    (ho : w1.ownsRow w.heap.size 9 1 v' (ks.length + 1) (ks.map sv ++ [sv k])) (hg : (V.alloc (.cells #[sv k] 9)).grownBy w1 vg.ownBlock) :
    PI w b B kn km kk Bx now most (ks ++ [k]) (w1.setCell ⟨kk, 0, none⟩ v') ∧ KeepsFrom B V (w1.setCell ⟨kk, 0, none⟩ v') ∧ (∀ j, B ≤ j → ∀ cs t fz, V.heap[j]? = some (.cells cs t fz) → t = 215 ∨ t = 3 → (w1.setCell ⟨kk, 0, none⟩ v').heap[j]? = V.heap[j]?) ∧ w1.heap[kk]? = V.heap[kk]? := by
  have hown : ∀ q, vg.ownBlock = some q → w.heap.size ≤ q ∧ ∃ cur, V.heap[q]? = some (.cells cur 9 (0, 0)) := fun q hq => by
    rcases hv2.2 with ⟨e', _⟩ | ⟨g', cap, cur, e', hb, hg', _⟩
    · rw [e'] at hq; cases hq
    · rw [e'] at hq
      injection hq with hq
      have : g' = q := hq
      subst this
      exact ⟨hb, cur, hg'⟩
  have b1 : Below V.heap.size V (V.alloc (.cells #[sv k] 9)) := (Below.refl _ V).alloc (Nat.le_refl _) _
  have k1 : ∀ (j : Nat) (o : Obj), V.heap[j]? = some o → (∀ cs fz, o ≠ Obj.cells cs 9 fz) → w1.heap[j]? = some o := fun j o hj hne => by
    have hl := (Array.getElem?_eq_some_iff.1 hj).1
    refine (hg.block j (Nat.lt_of_lt_of_le hl b1.size) (fun e => ?_)).trans ((b1.block j hl).trans hj)
    obtain ⟨_, cur, hc⟩ := hown j e.symm
    rw [hj] at hc
    injection hc with hc
    exact hne _ _ hc
  have kk1 := k1 kk _ hv1 (fun cs fz e => by injection e with _ e; cases e)
  have s1 : V.heap.size ≤ (w1.setCell ⟨kk, 0, none⟩ v').heap.size := by rw [size_set]; exact Nat.le_trans b1.size hg.size
  have k2 : ∀ (j : Nat) (o : Obj), j ≠ kk → V.heap[j]? = some o → (∀ cs fz, o ≠ Obj.cells cs 9 fz) → (w1.setCell ⟨kk, 0, none⟩ v').heap[j]? = some o := fun j o hne hj hc => (set_ne hne _).trans (k1 j o hj hc)
  have bw : Below w.heap.size w (w1.setCell ⟨kk, 0, none⟩ v') := ((((h.bel.trans (b1.mono h.bel.size))).grown hg (Nat.le_trans h.bel.size b1.size) (fun j hj => (hown j hj).1))).setCell h.wk _
  refine ⟨⟨bw, Nat.le_trans h.size s1, h.ln, h.lm, h.lk, h.lx, h.wB, h.wk, k2 _ _ ?_ h.cn ?_, k2 _ _ ?_ h.cm ?_, k2 _ _ ?_ h.bx ?_, v', (set_at kk1 _).trans rfl, ?_⟩, ⟨s1, fun j o hB hj hc => k2 j o ?_ hj ?_⟩, fun j hB cs t fz hj ht => (k2 j _ ?_ hj ?_).trans hj.symm, kk1.trans hv1.symm⟩
  · rintro rfl; have := h.cn; rw [hv1] at this; cases this
  · intro cs fz e; injection e with _ e; cases e
  · rintro rfl; have := h.cm; rw [hv1] at this; cases this
  · intro cs fz e; injection e with _ e; cases e
  · rintro rfl; have := h.bx; rw [hv1] at this; injection this with this; injection this with _ this; cases this
  · intro cs fz e; injection e with _ e; cases e
  · rw [List.length_append, List.map_append]
    refine ⟨ho.1, ho.2.imp id ?_⟩
    rintro ⟨g', cap, cur, e', hb, hg', r⟩
    refine ⟨g', cap, cur, e', hb, (set_ne (fun q => ?_) _).trans hg', r⟩
    rw [q, kk1] at hg'
    injection hg' with hg'
    injection hg' with _ hg'
    cases hg'
  · have := h.lk; omega
  · rintro cs fz rfl; cases hc
  · have := h.lk; omega
  · intro cs' fz' e
    injection e with _ e
    rcases ht with q | q <;> rw [q] at e <;> cases e
end
theorem row_put {W : World} {B e sz n D : Nat} {v : Value} {xs : List Value} (o' : Obj) (h : W.ownsRow B e sz v n xs) (hd : W.heap[D]? = some (.deferred (some []))) : (W.putObj D o').ownsRow B e sz v n xs := by
  refine ⟨h.1, h.2.imp id ?_⟩
  rintro ⟨g', cap, cur, e', hb, hg', r⟩
  refine ⟨g', cap, cur, e', hb, (World.putObj_heap_other ?_).trans hg', r⟩
  rintro rfl
  rw [hd] at hg'
  cases hg'
theorem info9 : (Tryz.prog.info? 9).map (fun i => (i.zero, i.size, i.bytes)) = some (some (.string ⟨#[]⟩), 1, 16) := by kernel_rfl
theorem parts9 : ∃ i, Tryz.prog.info? 9 = some i ∧ i.zero = some (.string ⟨#[]⟩) ∧ i.size = 1 ∧ i.bytes = 16 := by
  have h := info9
  cases e : Tryz.prog.info? 9 with
  | none => rw [e] at h; cases h
  | some i =>
    rw [e] at h
    simp at h
    exact ⟨i, rfl, h.1, h.2.1, h.2.2⟩
theorem one_new (W : World) (v : Value) : ∀ (j : Nat) (u : Value), [v][j]? = some u → (W.alloc (.cells #[v] 9)).cell? ((⟨W.heap.size, 0, none⟩ : Addr).add j) = some u := fun j u hj => by
  match j, hj with
  | 0, hj =>
    have : (⟨W.heap.size, 0, none⟩ : Addr).add 0 = ⟨W.heap.size, 0, none⟩ := by simp [Addr.add]
    rw [this, Lib.cell_of_heap (heap_alloc_new W _)]
    exact hj
theorem succ_shape {W : World} {B e sz n : Nat} {v : Value} {xs : List Value} (h : W.ownsRow B e sz v (n + 1) xs) : ∃ g' c', v = .slice (some ⟨g', 0, none⟩) (n + 1) c' := by
  rcases h.2 with ⟨_, q⟩ | ⟨g, cap, cur, rfl, _⟩
  · omega
  · exact ⟨_, _, rfl⟩
theorem rising_call (b : Nat) (w : World) : Calls Tryz.prog 142 #[.pointer (some ⟨b, 0, none⟩)] w fun e w' => e = .returned (.func (.func 156) #[] #[.pointer (some ⟨w.heap.size, 0, none⟩)]) ∧ w' = w.alloc (.cells #[.pointer (some ⟨b, 0, none⟩)] 98) := by
  go_enter Tryz.func142, Tryz.ntmps142
  go_wp2_with fail
  go_ret
  exact ⟨rfl, rfl⟩
set_option maxHeartbeats 4000000 in
set_option maxRecDepth 100000 in
theorem peek_gen {b g : Nat} {S : Es} {w : World} (now most : Int) (hmost : 0 < most) (hb : b < w.heap.size) (hg : g < w.heap.size) (hlen : S.length < 1099511627776)
    (hseq : ∀ (w3 : World) (Bx N : Nat), Below w.heap.size w w3 → w3.heap[Bx]? = some (.cells #[.pointer (some ⟨b, 0, none⟩)] 98 (0, 0)) → N ≤ w3.heap.size → SeqR Tr 4 Tryz.prog 156 #[.pointer (some ⟨Bx, 0, none⟩)] (fun x => #[eS x]) (Kp [Bx, b, g] N) (fun xs => xs = S) (fun pre => pre <+: S) S.length w3) :
    Calls Tryz.prog 123 #[ptr b, .int .i64 now, .int .i64 most] w fun e w' => ∃ v, e = .returned v ∧ w'.ownsRow w.heap.size 9 1 v (got S now most).length ((keysOf (got S now most)).map sv) ∧ Below w.heap.size w w' := by
  have HA := hid_of (And.intro hlen hseq)
  have m0 : ¬ most ≤ 0 := by omega
  have HR := hid_of (rising_call b)
  clear hlen hseq
  unfold ptr
  refine (callsIn_wide (n := 5)).1 ?_
  refine callsIn_of_wp_marks Tryz.func123 rfl trivial ?_ rfl
  simp only [Tryz.ntmps123, List.size_toArray, List.length_cons, List.length_nil, Nat.reduceAdd, Nat.reduceSub, Array.replicate_succ, Array.replicate_zero, List.push_toArray, List.append_toArray, List.nil_append, List.cons_append]
  gi_wp2_with fail
  refine ⟨trivial, callsIn_wide.2 ((HR.out _).mono ?_)⟩
  rintro e w3 ⟨rfl, hw3⟩
  obtain ⟨T, hT⟩ : ∃ T, T = w.heap.size := ⟨_, rfl⟩
  have hP : PI w b (T + 4) T (T + 1) (T + 2) (T + 3) now most [] w3 := by
    have a1 : Below w.heap.size w (w.alloc (.cells #[.int .i64 now] 3)) := (Below.refl _ w).alloc (Nat.le_refl _) _
    obtain ⟨w1, hw1⟩ : ∃ w1, w1 = w.alloc (.cells #[.int .i64 now] 3) := ⟨_, rfl⟩
    obtain ⟨w2, hw2⟩ : ∃ w2, w2 = w1.alloc (.cells #[.int .i64 most] 3) := ⟨_, rfl⟩
    obtain ⟨w2', hw2'⟩ : ∃ w2', w2' = w2.alloc (.cells #[.slice none 0 0] 26) := ⟨_, rfl⟩
    rw [← hw1, ← hw2, ← hw2'] at hw3
    have z1 : w1.heap.size = T + 1 := by rw [hw1, hT]; simp
    have z2 : w2.heap.size = T + 2 := by rw [hw2]; simp [z1]
    have z3 : w2'.heap.size = T + 3 := by rw [hw2']; simp [z2]
    have z4 : w3.heap.size = T + 4 := by rw [hw3]; simp [z3]
    have b1 : Below w.heap.size w w1 := by rw [hw1]; exact (Below.refl _ w).alloc (Nat.le_refl _) _
    have b2 : Below w1.heap.size w1 w2 := by rw [hw2]; exact (Below.refl _ w1).alloc (Nat.le_refl _) _
    have b3 : Below w2.heap.size w2 w2' := by rw [hw2']; exact (Below.refl _ w2).alloc (Nat.le_refl _) _
    have b4 : Below w2'.heap.size w2' w3 := by rw [hw3]; exact (Below.refl _ w2').alloc (Nat.le_refl _) _
    have n1 : w1.heap[T]? = some (.cells #[.int .i64 now] 3 (0, 0)) := by rw [hw1, hT]; exact heap_alloc_new w _
    have n2 : w2.heap[T + 1]? = some (.cells #[.int .i64 most] 3 (0, 0)) := by rw [hw2, ← z1]; exact heap_alloc_new w1 _
    have n3 : w2'.heap[T + 2]? = some (.cells #[.slice none 0 0] 26 (0, 0)) := by rw [hw2', ← z2]; exact heap_alloc_new w2 _
    have n4 : w3.heap[T + 3]? = some (.cells #[.pointer (some ⟨b, 0, none⟩)] 98 (0, 0)) := by rw [hw3, ← z3]; exact heap_alloc_new w2' _
    refine ⟨b1.trans ((b2.mono (by omega)).trans ((b3.mono (by omega)).trans (b4.mono (by omega)))), by omega, by omega, by omega, by omega, by omega, by omega, by omega, ?_, ?_, n4, _, (b4.block _ (by omega)).trans n3, World.ownsRow_nil _ _ _ _⟩
    · rw [b4.block _ (by omega), b3.block _ (by omega), b2.block _ (by omega)]; exact n1
    · rw [b4.block _ (by omega), b3.block _ (by omega)]; exact n2
  have s3 : w3.heap.size = T + 4 := by rw [hw3, hT]; simp
  have eB : (((w.alloc (.cells #[.int .i64 now] 3)).alloc (.cells #[.int .i64 most] 3)).alloc (.cells #[.slice none 0 0] 26)).heap.size = T + 3 := by rw [hT]; simp
  have HS3 := hid_of s3
  have HT := hid_of hT
  have HP := hid_of hP
  rw [← hT, eB]
  clear s3 hP hT hw3 eB HR m0
  gi_wp2_with fail
  apply range_own (n := 5) (P := Tryz.prog) (w := w3) (by decide) (gf := 156) (lb := #[.pointer (some ⟨T + 3, 0, none⟩)]) rfl (enters_of Tryz.func156 (by kernel_rfl) rfl) (Kp := Kp [T + 3, b, g] (T + 4)) (R := Tr) (encs := fun x : Bs × Int => #[eS x]) (S := fun xs => xs = S) (Sp := fun pre => pre <+: S) (N := S.length) (w0 := w3)
    (I := fun pre W => PI w b (T + 4) T (T + 1) (T + 2) (T + 3) now most (keysOf pre) W ∧ (∀ x ∈ pre, x.2 ≤ now) ∧ (pre.length : Int) < most)
    (Ix := fun cd pre W => cd = .exit 0 ∧ PI w b (T + 4) T (T + 1) (T + 2) (T + 3) now most (keysOf (got pre now most)) W ∧ ∃ p x, pre = p ++ [x] ∧ (∀ y ∈ p, y.2 ≤ now) ∧ (p.length : Int) < most ∧ (now < x.2 ∨ (x.2 ≤ now ∧ (pre.length : Int) = most)))
    (A := fun x W => W.alloc (.cells #[.string (mk x.1), .int .i64 x.2] 96))
  case hassign =>
    intro lp x W K hK
    unfold eS
    gi_wp2_with fail
    exact hK
  case hseq => exact HA.out.2 w3 (T + 3) (T + 4) HP.out.bel HP.out.bx (by rw [HS3.out]; omega)
  case hb0 => exact Below.refl _ _
  case hps => exact fun _ => rfl
  case hRo =>
    intro B A A' k o hr hk ho
    exact (hr.block k (Array.getElem?_eq_some_iff.1 hk).1 (.inr fun cs t fz e => by rw [hk] at e; cases e; cases ho)).trans hk
  case hKt => exact fun h k => h.trans k
  case hKb =>
    intro W k o o' hk ho hc
    rw [HS3.out] at hk
    refine ⟨by simp [World.putObj], fun j hj => World.putObj_heap_other ?_, fun j hj cs t fz e ht => World.putObj_heap_other ?_⟩
    · have := HP.out.wB
      have h1 : j = T + 3 ∨ j = b ∨ j = g := by simpa using hj
      have := HT.out
      rcases h1 with rfl | rfl | rfl <;> omega
    · rintro rfl; rw [ho] at e; cases e; cases hc
  case hI => rw [HS3.out]; exact OwnFrom.and (pi_own _) (fun s W W' row hs hg hr => hs)
  case hIx => intro cd; rw [HS3.out]; exact OwnFrom.and (fun s W W' row hs hg hr => hs) (OwnFrom.and (pi_own fun pre => keysOf (got pre now most)) (fun s W W' row hs hg hr => hs))
  case hIR => intro s A A' h hr; rw [HS3.out] at hr; exact ⟨h.1.tr hr, h.2⟩
  case hIxR => intro cd s A A' h hr; rw [HS3.out] at hr; exact ⟨h.1, h.2.1.tr hr, h.2.2⟩
  case h0 => exact ⟨HP.out, by simp, by simpa using hmost⟩
  case hA => exact fun x W => (Below.refl _ W).alloc (Nat.le_refl _) _
  case hAI => exact fun pre x W h => ⟨h.1.grown (World.grownBy_alloc W _ none) (fun r e => by cases e), h.2⟩
  case hAK =>
    intro pre x W h
    have hb2 : Below W.heap.size W (W.alloc (.cells #[.string (mk x.1), .int .i64 x.2] 96)) := (Below.refl _ W).alloc (Nat.le_refl _) _
    refine ⟨hb2.size, fun j hj => hb2.block j ?_, fun j hj cs t fz e ht => hb2.block j (lt_of e)⟩
    have h1 : j = T + 3 ∨ j = b ∨ j = g := by simpa using hj
    have := h.1.size
    have := h.1.wB
    rcases h1 with rfl | rfl | rfl <;> omega
  case hbody =>
    rintro lp pre x W V hWs ⟨hPI, hall, hlt⟩ hpl hVs hV
    have hE : V.heap[W.heap.size]? = some (.cells #[.string (mk x.1), .int .i64 x.2] 96 (0, 0)) := (hV _ (Nat.le_refl _)).trans (heap_alloc_new W _)
    obtain ⟨E, hEE⟩ : ∃ E, E = W.heap.size := ⟨_, rfl⟩
    rw [← hEE] at hE ⊢
    have e0 : V.cell? ⟨E, 0, none⟩ = some (.string (mk x.1)) := Lib.cell_of_heap hE 0
    have e1 : V.cell? ⟨E, 1, none⟩ = some (.int .i64 x.2) := Lib.cell_of_heap hE 1
    have c1 : V.cell? ⟨T, 0, none⟩ = some (.int .i64 now) := Lib.cell_of_heap hPI.cn 0
    have c2 : V.cell? ⟨T + 1, 0, none⟩ = some (.int .i64 most) := Lib.cell_of_heap hPI.cm 0
    obtain ⟨vg, hv1, hv2⟩ := hPI.keys
    have c3 : V.cell? ⟨T + 1 + 1, 0, none⟩ = some vg := Lib.cell_of_heap hv1 0
    have HPI := hid_of hPI
    have HALL := hid_of (And.intro hall hlt)
    have hpl2 : pre.length < 1099511627776 := by
      have := HA.out.1
      omega
    by_cases hx : now < x.2
    · have hgot := got_late (S := pre ++ [x]) (List.prefix_refl _) hall hx hlt
      have HX := hid_of hx
      have HG := hid_of hgot
      clear hgot hPI hv1 hv2 hE hV hVs hall hlt hpl hEE hWs
      gi_wp2_with fail
      exact ⟨KeepsFrom.refl _ _, rfl, by rw [HG.out]; exact HPI.out, pre, x, rfl, HALL.out.1, HALL.out.2, .inl HX.out⟩
    · have hx2 : x.2 ≤ now := by omega
      obtain ⟨i0, hi0, hz0, hz1, hz2⟩ := parts9
      have HNX : Hid (∀ w1 v', w1.ownsRow w.heap.size 9 1 v' (pre.length + 1) ((keysOf pre).map sv ++ [.string (mk x.1)]) → (V.alloc (.cells #[.string (mk x.1)] 9)).grownBy w1 vg.ownBlock → PI w b (T + 4) T (T + 1) (T + 2) (T + 3) now most (keysOf (pre ++ [x])) (w1.setCell ⟨T + 1 + 1, 0, none⟩ v') ∧ KeepsFrom (T + 4) V (w1.setCell ⟨T + 1 + 1, 0, none⟩ v') ∧ (∀ j, T + 4 ≤ j → ∀ cs t fz, V.heap[j]? = some (.cells cs t fz) → t = 215 ∨ t = 3 → (w1.setCell ⟨T + 1 + 1, 0, none⟩ v').heap[j]? = V.heap[j]?) ∧ w1.heap[T + 1 + 1]? = V.heap[T + 1 + 1]?) := hid_of fun w1 v' ho hg => by
        have := hPI.step hv1 hv2 x.1 (w1 := w1) (v' := v') (by unfold keysOf; rw [List.length_map]; exact ho) hg
        unfold keysOf at this ⊢
        rw [List.map_append]
        exact this
      have HG2 : Hid (V.ownsRow w.heap.size 9 1 vg pre.length ((keysOf pre).map sv)) := hid_of (by
        unfold keysOf at hv2 ⊢
        rw [List.length_map] at hv2
        exact hv2)
      have HV1 := hid_of hv1
      have HX := hid_of hx2
      clear hPI hv1 hv2 hE hV hVs hall hlt hpl hEE hWs
      have hlp : ((pre ++ [x]).length : Int) = (pre.length : Int) + 1 := by simp
      have HLP := hid_of hlp
      clear hlp
      have HAL : Hid (∀ y ∈ pre ++ [x], y.2 ≤ now) := hid_of fun y hy => by
        rcases List.mem_append.1 hy with r | r
        · exact HALL.out.1 y r
        · simp at r; rw [r]; exact HX.out
      generalize hXk : mk x.1 = X at *
      by_cases heq : (pre.length : Int) + 1 = most
      · have t1 : (((pre.length : Int) + 1) == most) = true := by simpa using heq
        have HEQ := hid_of heq
        clear heq
        gi_wp2_with (first
          | (gi_at_builtin; refine wpListIn_append_own _ rfl _ _ 26 rfl w.heap.size 9 i0 (.string ⟨#[]⟩) 1 16 Tryz.underlying26 hi0 hz0 hz1 hz2 rfl (by decide) _ _ _ rfl (row_b (B' := 0) HG2.out ((Below.refl _ V).alloc (Nat.le_refl _) _)) _ 1 1 [.string X] rfl rfl (one_new _ _) (by simp [Value.oneCell']) (by unfold maxLen; omega) (by omega) (by have := HPI.out.bel.size; simp; omega) ?_; intro v' w1 hown hgr hnil; obtain ⟨g', cap', rfl⟩ := succ_shape hown; obtain ⟨hi1, hk1, hlow1, hG1⟩ := HNX.out w1 _ hown hgr; have cG1 : w1.cell? ⟨T + 1 + 1, 0, none⟩ = some vg := Lib.cell_of_heap (hG1.trans HV1.out) 0; have fG1 : w1.frozen? ⟨T + 1 + 1, 0, none⟩ = false := Lib.frozen_of_heap (hG1.trans HV1.out) 0; have cG2 : (w1.setCell ⟨T + 1 + 1, 0, none⟩ (.slice (some ⟨g', 0, none⟩) (pre.length + 1) cap')).cell? ⟨T + 1 + 1, 0, none⟩ = some (.slice (some ⟨g', 0, none⟩) (pre.length + 1) cap') := World.cell?_setCell_same' _ _ _ (by rw [cG1]; rfl); have cM2 : (w1.setCell ⟨T + 1 + 1, 0, none⟩ (.slice (some ⟨g', 0, none⟩) (pre.length + 1) cap')).cell? ⟨T + 1, 0, none⟩ = some (.int .i64 most) := Lib.cell_of_heap hi1.cm 0; have H1 := hid_of (And.intro hi1 (And.intro hk1 hlow1)); clear hi1 hk1 hlow1 hG1 hown hgr hnil)
          | go_in)
        refine ⟨by rw [HS3.out]; exact H1.out.2.1, rfl, ?_, pre, x.1, x.2, rfl, (fun a b h => HALL.out.1 (a, b) h), HALL.out.2, .inr ⟨HX.out, by rw [HLP.out]; exact HEQ.out⟩⟩
        rw [got_full (List.prefix_refl _) HAL.out (by rw [HLP.out]; exact HEQ.out)]
        exact H1.out.1
      · have t1 : (((pre.length : Int) + 1) == most) = false := by simpa using heq
        have HEQ := hid_of heq
        clear heq
        gi_wp2_with (first
          | (gi_at_builtin; refine wpListIn_append_own _ rfl _ _ 26 rfl w.heap.size 9 i0 (.string ⟨#[]⟩) 1 16 Tryz.underlying26 hi0 hz0 hz1 hz2 rfl (by decide) _ _ _ rfl (row_b (B' := 0) HG2.out ((Below.refl _ V).alloc (Nat.le_refl _) _)) _ 1 1 [.string X] rfl rfl (one_new _ _) (by simp [Value.oneCell']) (by unfold maxLen; omega) (by omega) (by have := HPI.out.bel.size; simp; omega) ?_; intro v' w1 hown hgr hnil; obtain ⟨g', cap', rfl⟩ := succ_shape hown; obtain ⟨hi1, hk1, hlow1, hG1⟩ := HNX.out w1 _ hown hgr; have cG1 : w1.cell? ⟨T + 1 + 1, 0, none⟩ = some vg := Lib.cell_of_heap (hG1.trans HV1.out) 0; have fG1 : w1.frozen? ⟨T + 1 + 1, 0, none⟩ = false := Lib.frozen_of_heap (hG1.trans HV1.out) 0; have cG2 : (w1.setCell ⟨T + 1 + 1, 0, none⟩ (.slice (some ⟨g', 0, none⟩) (pre.length + 1) cap')).cell? ⟨T + 1 + 1, 0, none⟩ = some (.slice (some ⟨g', 0, none⟩) (pre.length + 1) cap') := World.cell?_setCell_same' _ _ _ (by rw [cG1]; rfl); have cM2 : (w1.setCell ⟨T + 1 + 1, 0, none⟩ (.slice (some ⟨g', 0, none⟩) (pre.length + 1) cap')).cell? ⟨T + 1, 0, none⟩ = some (.int .i64 most) := Lib.cell_of_heap hi1.cm 0; have H1 := hid_of (And.intro hi1 (And.intro hk1 hlow1)); clear hi1 hk1 hlow1 hG1 hown hgr hnil)
          | go_in)
        refine ⟨by rw [HS3.out]; exact H1.out.2.1, ⟨H1.out.2.1.size, fun j hj => ?_, H1.out.2.2⟩, H1.out.1, (fun a b h => HAL.out (a, b) h), by rw [HLP.out]; have := HALL.out.2; have := HEQ.out; omega⟩
        have h1 : j = T + 3 ∨ j = b ∨ j = g := by simpa using hj
        rcases h1 with rfl | rfl | rfl
        · exact H1.out.1.bx.trans HPI.out.bx.symm
        · exact (H1.out.1.bel.block _ hb).trans (HPI.out.bel.block _ hb).symm
        · exact (H1.out.1.bel.block _ hg).trans (HPI.out.bel.block _ hg).symm
  case' hdone =>
    rintro D xs W hD hxs ⟨hPI, hall, hlt⟩ hdf
    obtain ⟨vg, hv1, hv2⟩ := hPI.keys
    have c3 : W.cell? ⟨T + 1 + 1, 0, none⟩ = some vg := Lib.cell_of_heap hv1 0
    have HF : Hid (W.ownsRow w.heap.size 9 1 vg (got S now most).length ((keysOf (got S now most)).map sv)) := hid_of (by
      rw [hxs] at hall hlt hv2
      rw [got_done hall hlt]
      unfold keysOf at hv2 ⊢
      rw [List.length_map] at hv2
      exact hv2)
    have HB := hid_of hPI.bel
    have HDD := hid_of (And.intro hD hdf)
    clear hPI hv1 hv2 hall hlt hdf hD
    gi_wp2_with fail
    refine ⟨by simp, .inl ⟨_, _, rfl, run_takeDeferred HDD.out.2, ?_⟩⟩
    exact ⟨_, results_tmp rfl _ _ _, ⟨vg, rfl, row_put _ HF.out HDD.out.2, HB.out.grown (grownBy_putObj' W D (.deferred none)) HB.out.size (fun j hj => by cases hj; have := HDD.out.1; have := HS3.out; have := HT.out; omega)⟩⟩
  case' hstop =>
    rintro D cd pre W hD hpre ⟨hcd, hPI, p, x, hpx, hall, hlt, hor⟩ hdf
    subst hcd
    obtain ⟨vg, hv1, hv2⟩ := hPI.keys
    have c3 : W.cell? ⟨T + 1 + 1, 0, none⟩ = some vg := Lib.cell_of_heap hv1 0
    have hgg : got S now most = got pre now most := by
      rcases hor with q | ⟨q1, q2⟩
      · rw [hpx] at hpre ⊢
        rw [got_late hpre hall q hlt, got_late (List.prefix_refl _) hall q hlt]
      · have hal : ∀ y ∈ pre, y.2 ≤ now := fun y hy => by
          rw [hpx] at hy
          rcases List.mem_append.1 hy with r | r
          · exact hall y r
          · simp at r; rw [r]; exact q1
        rw [got_full hpre hal q2, got_full (List.prefix_refl _) hal q2]
    have HF : Hid (W.ownsRow w.heap.size 9 1 vg (got S now most).length ((keysOf (got S now most)).map sv)) := hid_of (by
      rw [hgg]
      unfold keysOf at hv2 ⊢
      rw [List.length_map] at hv2
      exact hv2)
    have HB := hid_of hPI.bel
    have HDD := hid_of (And.intro hD hdf)
    clear hPI hv1 hv2 hall hlt hdf hD hgg hor hpx hpre
    gi_wp2_with fail
    refine ⟨by simp, .inl ⟨_, _, rfl, run_takeDeferred HDD.out.2, ?_⟩⟩
    exact ⟨_, results_tmp rfl _ _ _, ⟨vg, rfl, row_put _ HF.out HDD.out.2, HB.out.grown (grownBy_putObj' W D (.deferred none)) HB.out.size (fun j hj => by cases hj; have := HDD.out.1; have := HS3.out; have := HT.out; omega)⟩⟩
theorem peek_pos {b g c : Nat} {l S : Es} {w : World} (now most : Int) (hmost : 0 < most) (h0 : 0 < l.length) (hw : l.length + 1 < 1099511627776) (nd : l.Nodup) (hh : Hp ltS l l.length) (hS : Sorted ltS l S)
    (hb : b < w.heap.size) (hg : g < w.heap.size) (hrow : w.cell? ⟨b, 0, none⟩ = some (.slice (some ⟨g, 0, none⟩) l.length c)) (hent : EN g l w) :
    Calls Tryz.prog 123 #[ptr b, .int .i64 now, .int .i64 most] w fun e w' => ∃ v, e = .returned v ∧ w'.ownsRow w.heap.size 9 1 v (got S now most).length ((keysOf (got S now most)).map sv) ∧ Below w.heap.size w w' :=
  peek_gen now most hmost hb hg (by have := hS.perm.length_eq; omega) fun w3 Bx N hbel hbx hN =>
    rise_seq 4 h0 hw nd hh hS (ent_keys keysS).tot ⟨Lib.cell_of_heap hbx 0, (hbel.cell (p := ⟨b, 0, none⟩) hb).trans hrow, hent.keep (hbel.block g hg)⟩ (lt_of hbx) (by have := hbel.size; omega) (by have := hbel.size; omega) N hN
theorem reach_nil {e c : Nat} {a : Option Addr} {w : World} (h : w.cell? ⟨e, 0, none⟩ = some (.slice a 0 c)) : Calls Tryz.prog 157 #[ptr e, .int .i64 0] w fun r w' => r = .returned (.tuple #[]) ∧ w' = w := by
  unfold ptr
  go_enter Tryz.func157, Tryz.ntmps157
  go_wp2_with fail
  go_end0
  exact ⟨rfl, rfl⟩
theorem plen_nil {e : Nat} {w : World} (h : w.cell? ⟨e, 1, none⟩ = some (.slice none 0 0)) : Calls Tryz.prog 158 #[ptr e] w fun r w' => r = .returned (.int .i64 0) ∧ w' = w := by
  unfold ptr
  go_enter Tryz.func158, Tryz.ntmps158
  go_wp2_with fail
  go_ret
  exact ⟨rfl, rfl⟩
set_option maxHeartbeats 1000000 in
set_option maxRecDepth 100000 in
theorem rise_nil {Bx b c L : Nat} {a : Option Addr} {J : Es → World → Prop} {Jx : Es → World → Prop} {W : World} (h1 : W.cell? ⟨Bx, 0, none⟩ = some (.pointer (some ⟨b, 0, none⟩))) (h2 : W.cell? ⟨b, 0, none⟩ = some (.slice a 0 c))
    (hJ : ∀ s A A', J s A → Tr W.heap.size A A' → J s A') (hJ0 : J [] W) :
    Calls Tryz.prog 156 #[.func (.yield L) #[] #[], .pointer (some ⟨Bx, 0, none⟩)] W fun e W' => (∃ v, e = .returned v) ∧ ((∃ xs, xs = [] ∧ J xs W') ∨ ∃ pre, pre <+: ([] : Es) ∧ Jx pre W') := by
  have HJ := hid_of hJ
  have HJ0 := hid_of hJ0
  have hn : (W.alloc (.cells #[.slice a 0 c, .slice none 0 0] 215)).heap[W.heap.size]? = some (.cells #[.slice a 0 c, .slice none 0 0] 215 (0, 0)) := heap_alloc_new W _
  have H1 := hid_of (reach_nil (Lib.cell_of_heap hn 0))
  have H2 := hid_of (plen_nil (Lib.cell_of_heap hn 1))
  have HT : Hid (Tr W.heap.size W (W.alloc (.cells #[.slice a 0 c, .slice none 0 0] 215))) := hid_of (Tr.of_below ((Below.refl _ W).alloc (Nat.le_refl _) _))
  clear hJ hJ0 hn
  unfold ptr at *
  go_enter Tryz.func156, Tryz.ntmps156
  go_wp2_with fail
  refine H1.out.mono ?_
  rintro r w1 ⟨rfl, rfl⟩
  go_wp2_with fail
  refine wp_loop_rounds 1 ?_
  rw [rounds_succ]
  go_wp2_with fail
  refine H2.out.mono ?_
  rintro r w2 ⟨rfl, rfl⟩
  go_wp2_with fail
  go_end0
  exact ⟨⟨_, rfl⟩, .inl ⟨[], rfl, HJ.out _ _ _ HJ0.out HT.out⟩⟩
theorem peek_zero {b c : Nat} {a : Option Addr} {w : World} (now most : Int) (hmost : 0 < most) (hb : b < w.heap.size) (hrow : w.cell? ⟨b, 0, none⟩ = some (.slice a 0 c)) :
    Calls Tryz.prog 123 #[ptr b, .int .i64 now, .int .i64 most] w fun e w' => ∃ v, e = .returned v ∧ w'.ownsRow w.heap.size 9 1 v (got [] now most).length ((keysOf (got [] now most)).map sv) ∧ Below w.heap.size w w' :=
  peek_gen (g := b) now most hmost hb hb (by simp) fun w3 Bx N hbel hbx hN L J Jx W hW hJ _ hY hJ0 => by
    have h1 := lt_of hbx
    have h2 : b < w3.heap.size := Nat.lt_of_lt_of_le hb hbel.size
    exact rise_nil (Lib.cell_of_heap ((hW.block Bx h1).trans hbx) 0) ((hW.cell (p := ⟨b, 0, none⟩) h2).trans ((hbel.cell (p := ⟨b, 0, none⟩) hb).trans hrow)) hJ hJ0
end Go.Proofs.YtminfpkigenahaaGreatDoor.Peek
end
section
namespace Go.Proofs.YtminfpkigenahaaGreatDoor.PeekS
open Go.RowKit Go.Maps Go.Shelf
open Go.Proofs.YtminfpkigenahaaGreatDoor.HeapMath
open Go.Proofs.YtminfpkigenahaaGreatDoor.Heap
open Go.Proofs.YtminfpkigenahaaGreatDoor.Turn
open Go.Proofs.YtminfpkigenahaaGreatDoor.Before
open Go.Proofs.YtminfpkigenahaaGreatDoor.Base (mk mk_list)
open Go.Proofs.YtminfpkigenahaaGreatDoor.RowB
open Go.Proofs.YtminfpkigenahaaGreatDoor.Edge
open Go.Proofs.YtminfpkigenahaaGreatDoor.IndexS
open Go.Proofs.YtminfpkigenahaaGreatDoor.ThingS
open Go.Proofs.YtminfpkigenahaaGreatDoor.Peek
set_option linter.unusedVariables false
set_option linter.unusedSimpArgs false
theorem sorted_nodup {l S : Es} (h : Sorted ltS l S) : l.Nodup := by
  refine (h.perm.nodup_iff).1 (h.inc.imp ?_)
  intro a b hab e
  rw [e] at hab
  exact (ent_sto keysS).irr _ hab
theorem below3 (w : World) (o1 o2 o3 : Obj) : Below w.heap.size w (((w.alloc o1).alloc o2).alloc o3) := (((Below.refl _ w).alloc (Nat.le_refl _) _).alloc (by simp) _).alloc (by simp; omega) _
set_option maxHeartbeats 1000000 in
set_option maxRecDepth 100000 in
theorem peek_none {b : Nat} {S : Es} {w : World} (now most : Int) (hmost : most ≤ 0) : Calls Tryz.prog 123 #[ptr b, .int .i64 now, .int .i64 most] w fun e w' => ∃ v, e = .returned v ∧ w'.ownsRow w.heap.size 9 1 v (got S now most).length ((keysOf (got S now most)).map sv) ∧ Below w.heap.size w w' := by
  have HG : Hid (got S now most = []) := hid_of (by unfold got; rw [show most.toNat = 0 by omega, List.take_zero])
  unfold ptr
  go_enter Tryz.func123, Tryz.ntmps123
  go_wp2_with fail
  go_ret
  refine ⟨_, rfl, ?_, below3 w _ _ _⟩
  rw [HG.out]
  exact World.ownsRow_nil _ _ _ _
set_option maxHeartbeats 1000000 in
set_option maxRecDepth 100000 in
theorem peek_nobody {w : World} (now most : Int) : Calls Tryz.prog 123 #[.pointer none, .int .i64 now, .int .i64 most] w fun e w' => e = .returned (.slice none 0 0) ∧ Below w.heap.size w w' := by
  go_enter Tryz.func123, Tryz.ntmps123
  go_wp2_with fail
  go_ret
  exact ⟨rfl, below3 w _ _ _⟩
theorem peek_call {M : Nat → Prop} {b : Nat} {s S : Es} {w : World} (h : IX M b w s) (hS : Sorted ltS s S) (hlen : s.length + 1 < 1099511627776) (now most : Int) :
    Calls Tryz.prog 123 #[ptr b, .int .i64 now, .int .i64 most] w fun e w' => ∃ v, e = .returned v ∧ w'.ownsRow w.heap.size 9 1 v (got S now most).length ((keysOf (got S now most)).map sv) ∧ Below w.heap.size w w' := by
  rcases Int.lt_or_le 0 most with hm | hm
  · obtain ⟨l, hr, hh, hp⟩ := h
    have hS' : Sorted ltS l S := ⟨hS.perm.trans hp.symm, hS.inc⟩
    obtain ⟨ev, mv, h'⟩ := hr.1
    have hl := hp.length_eq
    rcases Nat.eq_zero_or_pos l.length with h0 | h0
    · obtain ⟨a, c, rfl⟩ := row_shape h'.ent
      have e1 : l = [] := List.length_eq_zero_iff.1 h0
      have e2 : S = [] := by have := hS'.perm; rw [e1] at this; exact this.eq_nil
      rw [e2]
      rw [h0] at h'
      exact peek_zero now most hm (lt_of h'.idx) (Lib.cell_of_heap h'.idx 0)
    · obtain ⟨g, c, rfl, _, hc⟩ := row_block h'.ent h0
      have c0 : w.cell? ⟨b, 0, none⟩ = some (.slice (some ⟨g, 0, none⟩) l.length c) := Lib.cell_of_heap h'.idx 0
      exact peek_pos now most hm h0 (by omega) (sorted_nodup hS') hh hS' (lt_of h'.idx) (block_lt_of_cell (hc 0 h0).1) c0 hc
  · exact peek_none now most hm
end Go.Proofs.YtminfpkigenahaaGreatDoor.PeekS
end
