/- Deadlines of keys; what a key's new entry makes of them. What is asked of a space: there, seen, find, Due, Version, Counter, Over. set: a key's entry is another one now, in the map and in the index of deadlines. -/
import Derived.Test.YtminfpkigenahaaGreatDoorCmpM
section
namespace Go.Proofs.YtminfpkigenahaaGreatDoor.SMath
open Go.RowKit Go.Maps
open Go.Proofs.YtminfpkigenahaaGreatDoor.SpaceMath
open Go.Proofs.YtminfpkigenahaaGreatDoor.RowB (Es)
open Go.Proofs.YtminfpkigenahaaGreatDoor.SetS (Given)
open Go.Proofs.YtminfpkigenahaaGreatDoor.SBase (En KL dues Two)
set_option linter.unusedVariables false
set_option linter.unusedSimpArgs false
def upd (l : KL En) (k : Bs) : Option En → KL En
  | none => wout l k
  | some e => withL l k e
theorem lkp_wout_same {α : Type} (l : KL α) (k : Bs) : lkp (wout l k) k = none := lkp_none fun p hp => wout_none p hp
theorem ins_perm {α : Type} (x : Bs × α) : ∀ l : KL α, (insL x l).Perm (x :: l)
  | [] => List.Perm.refl _
  | y :: r => by
    unfold insL
    split
    · exact List.Perm.refl _
    · exact ((ins_perm x r).cons y).trans (List.Perm.swap _ _ _)
theorem with_perm {α : Type} (l : KL α) (k : Bs) (v : α) : (withL l k v).Perm ((k, v) :: wout l k) := ins_perm _ _
theorem dues_key {l : KL En} {x : Bs × Int} (h : x ∈ dues l) : ∃ e, (x.1, e) ∈ l ∧ x.2 = e.due ∧ 0 < e.due := by
  unfold dues at h
  obtain ⟨p, hp, he⟩ := List.mem_filterMap.1 h
  split at he
  · cases he; exact ⟨p.2, hp, rfl, by assumption⟩
  · cases he
theorem dues_wout (l : KL En) (k : Bs) : dues (wout l k) = (dues l).filter fun p => !(p.1 == k) := by
  induction l with
  | nil => rfl
  | cons a r ih =>
    unfold wout dues at *
    rw [List.filter_cons]
    by_cases hk : (!(a.1 == k)) = true
    · rw [if_pos hk, List.filterMap_cons, List.filterMap_cons]
      by_cases hd : 0 < a.2.due
      · simp only [hd, if_true]
        rw [List.filter_cons, if_pos hk, ih]
      · simp only [hd, if_false]
        exact ih
    · rw [if_neg hk, List.filterMap_cons]
      by_cases hd : 0 < a.2.due
      · simp only [hd, if_true]
        rw [List.filter_cons, if_neg hk, ih]
      · simp only [hd, if_false]
        exact ih
theorem dues_keys {l : KL En} (h : Ris l) : (dues l).Pairwise (fun a b => a.1 < b.1) := by
  induction l with
  | nil => exact List.Pairwise.nil
  | cons a r ih =>
    unfold dues
    rw [List.filterMap_cons]
    by_cases hd : 0 < a.2.due
    · simp only [hd, if_true]
      refine List.pairwise_cons.2 ⟨fun p hp => ?_, ih h.tail⟩
      obtain ⟨e, he, _, _⟩ := dues_key (l := r) hp
      exact h.head _ he
    · simp only [hd, if_false]
      exact ih h.tail
theorem dues_perm {l m : KL En} (h : l.Perm m) : (dues l).Perm (dues m) := h.filterMap _
theorem dues_with (l : KL En) (k : Bs) (e : En) : (dues (withL l k e)).Perm ((if 0 < e.due then [(k, e.due)] else []) ++ (dues l).filter fun p => !(p.1 == k)) := by
  refine (dues_perm (with_perm l k e)).trans ?_
  have : dues ((k, e) :: wout l k) = (if 0 < e.due then [(k, e.due)] else []) ++ dues (wout l k) := by
    unfold dues
    rw [List.filterMap_cons]
    by_cases hd : 0 < e.due
    · simp [hd]
    · simp [hd]
  rw [this, dues_wout]
/-- what is left of keys that are all unlike, once one is taken away -/
theorem left_of {s : Es} (hs : s.Pairwise (fun a b => a.1 < b.1)) {t s0 : Es} {x : Bs × Int} {k : Bs} (hx : x.1 = k) (ht : t.Perm s) (h : (s0 ++ [x]).Perm t) : s0.Perm (s.filter fun p => !(p.1 == k)) := by
  have h1 := h.trans ht
  have nd : (s.map (·.1)).Nodup := by
    unfold List.Nodup
    rw [List.pairwise_map]
    exact hs.imp fun q => lt_ne q
  have nd2 : ((s0 ++ [x]).map (·.1)).Nodup := (h1.map _).nodup_iff.2 nd
  have hno : ∀ y ∈ s0, y.1 ≠ k := fun y hy e => by
    rw [List.map_append, List.nodup_append] at nd2
    exact nd2.2.2 y.1 (List.mem_map.2 ⟨y, hy, rfl⟩) x.1 (by simp) (by rw [e, hx])
  have h2 := h1.filter (fun p => !(p.1 == k))
  rw [List.filter_append] at h2
  have e1 : s0.filter (fun p => !(p.1 == k)) = s0 := List.filter_eq_self.2 fun y hy => by simp [hno y hy]
  have e2 : [x].filter (fun p => !(p.1 == k)) = [] := by simp [hx]
  rw [e1, e2, List.append_nil] at h2
  exact h2
theorem none_left {s t : Es} {k : Bs} (ht : t.Perm s) (h : ∀ x ∈ t, x.1 ≠ k) : t.Perm (s.filter fun p => !(p.1 == k)) := by
  rw [List.filter_eq_self.2 fun y hy => by simp [h y (ht.mem_iff.2 hy)]]
  exact ht
theorem du_set {l : KL En} (hr : Ris l) {s s' : Es} (hs : s.Perm (dues l)) {k : Bs} {e : En} (hd : 0 < e.due) (h : Given s k e.due s') : s'.Perm (dues (withL l k e)) := by
  have hk := dues_keys hr
  refine List.Perm.trans ?_ (dues_with l k e).symm
  rw [if_pos hd]
  rcases h with ⟨x, s0, hx, h1, h2⟩ | ⟨hno, h2⟩
  · exact h2.trans ((List.perm_append_comm).trans ((left_of hk hx hs h1).append_left _))
  · exact h2.trans ((List.perm_append_comm).trans ((none_left hs hno).append_left _))
theorem du_zero {l : KL En} {s' : Es} {k : Bs} {e : En} (hd : ¬ 0 < e.due) (h : s'.Perm ((dues l).filter fun p => !(p.1 == k))) : s'.Perm (dues (withL l k e)) := by
  refine h.trans ((dues_with l k e).trans ?_).symm
  rw [if_neg hd]
  exact List.Perm.refl _
theorem dues_len (l : KL En) : (dues l).length ≤ l.length := List.length_filterMap_le _ _
/-- two rising lists that hold the same keys -/
theorem keys_ext {α β : Type} : ∀ {l : KL α} {m : KL β}, Ris l → Ris m → (∀ k, (lkp l k).isSome = (lkp m k).isSome) → keys l = keys m
  | [], [], _, _, _ => rfl
  | [], b :: m, _, _, h => by
    have := h b.1
    rw [lkp_cons, if_pos rfl] at this
    cases this
  | a :: l, [], _, _, h => by
    have := h a.1
    rw [lkp_cons, if_pos rfl] at this
    cases this
  | a :: l, b :: m, hl, hm, h => by
    have no : ∀ {γ : Type} {c : Bs × γ} {n : KL γ} {k : Bs}, Ris (c :: n) → k < c.1 → lkp (c :: n) k = none := fun hc hk => lkp_none fun p hp e => by
      rcases List.mem_cons.1 hp with rfl | hp
      · exact lt_ne hk e.symm
      · exact lt_ne (List.lt_trans hk (hc.head p hp)) e.symm
    have hab : a.1 = b.1 := by
      rcases lt_tot a.1 b.1 with q | q | q
      · have := h a.1
        rw [no hm q, lkp_cons, if_pos rfl] at this
        cases this
      · exact q
      · have := h b.1
        rw [no hl q, lkp_cons, if_pos rfl] at this
        cases this
    have ih := keys_ext hl.tail hm.tail fun k => by
      have := h k
      rw [lkp_cons, lkp_cons, ← hab] at this
      by_cases e : a.1 = k
      · rw [lkp_none fun p hp q => lt_ne (hl.head p hp) (e.trans q.symm), lkp_none fun p hp q => lt_ne (hm.head p hp) ((hab.symm.trans e).trans q.symm)]
        rfl
      · rw [if_neg e, if_neg e] at this
        exact this
    unfold keys at *
    rw [List.map_cons, List.map_cons, ih, hab]
theorem two_keys {α β : Type} {R : Bs → α → β → Prop} {l : KL α} {m : KL β} (hl : Ris l) (hm : Ris m) (h : ∀ k, Two (R k) (lkp l k) (lkp m k)) : keys l = keys m := keys_ext hl hm fun k => by
  have := h k
  cases h1 : lkp l k <;> cases h2 : lkp m k <;> rw [h1, h2] at this
  · rfl
  · exact absurd this (by simp [Two])
  · exact absurd this (by simp [Two])
  · rfl
theorem two_len {α β : Type} {R : Bs → α → β → Prop} {l : KL α} {m : KL β} (hl : Ris l) (hm : Ris m) (h : ∀ k, Two (R k) (lkp l k) (lkp m k)) : l.length = m.length := by
  have := congrArg List.length (two_keys hl hm h)
  simpa [keys] using this
end Go.Proofs.YtminfpkigenahaaGreatDoor.SMath
end
section
namespace Go.Proofs.YtminfpkigenahaaGreatDoor.SFind
open Go.RowKit Go.Maps
open Go.Proofs.YtminfpkigenahaaGreatDoor.SpaceMath (wout withL lkp keys Ris toD at_D put_D del_D)
open Go.Proofs.YtminfpkigenahaaGreatDoor.ValueMath (Vl chk small)
open Go.Proofs.YtminfpkigenahaaGreatDoor.Base (mk mk_list mk_size Gr hid_of SL NR)
open Go.Proofs.YtminfpkigenahaaGreatDoor.Turn
open Go.Proofs.YtminfpkigenahaaGreatDoor.Swap (row_later law9 key9 turned_block owns_cells)
open Go.Proofs.YtminfpkigenahaaGreatDoor.Vals
open Go.Proofs.YtminfpkigenahaaGreatDoor.SBase
set_option linter.unusedVariables false
set_option linter.unusedSimpArgs false
theorem alb (w : World) (o : Obj) : Below w.heap.size w (w.alloc o) := (Below.refl _ w).alloc (Nat.le_refl _) o
theorem zeroE (w : World) : (zeroValue 51).run Tryz.prog w = .ok zE w := by kernel_rfl
set_option maxRecDepth 100000 in
theorem there_call (K T : ByteArray) (kd d : Int) (a1 a2 a3 : Option Addr) (n1 c1 n2 c2 n3 c3 n : Nat) (w : World) :
    Calls Tryz.prog 25 #[.agg #[.string K, .int .i64 kd, .string T, .slice a1 n1 c1, .slice a2 n2 c2, .slice a3 n3 c3, .int .i64 d, .int .u64 (n : Int)]] w fun e w' => e = .returned (.bool (decide (0 < n))) ∧ Below w.heap.size w w' := by
  have hd : decide ((0 : Int) < (n : Int)) = decide (0 < n) := by rw [decide_eq_decide]; omega
  go_enter Tryz.func25, Tryz.ntmps25
  go_wp2_with fail
  go_ret
  exact ⟨by first | rfl | (rw [hd]) | simp [hd], alb _ _⟩
def seenB (d : Int) (n : Nat) (now : Int) : Bool := decide (0 < n) && (decide (d = 0) || decide (now < d))
set_option maxRecDepth 100000 in
theorem seen_call (K T : ByteArray) (kd d now : Int) (a1 a2 a3 : Option Addr) (n1 c1 n2 c2 n3 c3 n : Nat) (w : World) :
    Calls Tryz.prog 102 #[.agg #[.string K, .int .i64 kd, .string T, .slice a1 n1 c1, .slice a2 n2 c2, .slice a3 n3 c3, .int .i64 d, .int .u64 (n : Int)], .int .i64 now] w fun e w' => e = .returned (.bool (seenB d n now)) ∧ Below w.heap.size w w' := by
  obtain ⟨W, hW⟩ : ∃ W, W = w.alloc (.cells #[.string K, .int .i64 kd, .string T, .slice a1 n1 c1, .slice a2 n2 c2, .slice a3 n3 c3, .int .i64 d, .int .u64 (n : Int)] 51) := ⟨_, rfl⟩
  have HT := hid_of (there_call K T kd d a1 a2 a3 n1 c1 n2 c2 n3 c3 n W)
  have HB := hid_of (show Below w.heap.size w W by rw [hW]; exact alb _ _)
  have HX := hid_of (show W.heap[w.heap.size]? = some (.cells #[.string K, .int .i64 kd, .string T, .slice a1 n1 c1, .slice a2 n2 c2, .slice a3 n3 c3, .int .i64 d, .int .u64 (n : Int)] 51 (0, 0)) by rw [hW]; exact heap_alloc_new w _)
  have HW := hid_of hW
  clear hW
  unfold seenB
  go_enter Tryz.func102, Tryz.ntmps102
  go_wp2_with fail
  rw [← HW.out]
  refine HT.out.mono ?_
  rintro e w1 ⟨rfl, hb⟩
  have c6 : w1.cell? ⟨w.heap.size, 6, none⟩ = some (.int .i64 d) := Lib.cell_of_heap ((hb.block _ (lt_of HX.out)).trans HX.out) 6
  have HB1 := hid_of hb
  clear hb
  by_cases hn : 0 < n
  · rw [decide_eq_true hn]
    by_cases h0 : d = 0
    · have e0 : (d == 0) = true := by simp [h0]
      go_wp2_with fail
      go_ret
      exact ⟨by simp [h0, hn], HB.out.trans (HB1.out.mono HB.out.size)⟩
    · have e0 : (d == 0) = false := by simp [h0]
      go_wp2_with fail
      go_ret
      exact ⟨by simp [h0, hn], HB.out.trans (HB1.out.mono HB.out.size)⟩
  · rw [decide_eq_false hn]
    go_wp2_with fail
    go_ret
    exact ⟨by simp [hn], HB.out.trans (HB1.out.mono HB.out.size)⟩
set_option maxRecDepth 100000 in
theorem deadline_call (d : Int) (w : World) : Calls Tryz.prog 12 #[.int .i64 d] w fun e w' => e = .returned (.bool (decide (0 ≤ d) && decide (d ≤ 9007199254740992))) ∧ w' = w := by
  by_cases h0 : 0 ≤ d
  · rw [decide_eq_true h0]
    go_enter Tryz.func12, Tryz.ntmps12
    go_wp2_with fail
    go_ret
    exact ⟨by simp, rfl⟩
  · rw [decide_eq_false h0]
    go_enter Tryz.func12, Tryz.ntmps12
    go_wp2_with fail
    go_ret
    exact ⟨by simp, rfl⟩
/-- what the map answers -/
theorem look {X : Nat → Prop} {bm n : Nat} {w W : World} {L : KL Value} {l : KL En} (own : W.ownsMap Tryz.prog 9 RH bm n (toD L)) (ent : ∀ k, Two (EnAt X w k) (lkp L k) (lkp l k)) (k : Bs) (hk : k.length ≤ 281474976710656) :
    ∃ v, (Instr.lookup 39 (.map (some bm)) (.string (mk k)) false).run Tryz.prog W = .ok v W ∧ HeldAt X w k v (lkp l k) := by
  obtain ⟨v, ps, hrun, hv⟩ := own.lookup law9 Tryz.underlying39 (zeroE W) (zd := .held zE) (zp := []) rfl (key9 k hk)
  refine ⟨v, hrun, ?_⟩
  rw [at_D] at hv
  have e := RH_inv hv
  have := ent k
  cases h1 : lkp L k with
  | none =>
    cases h2 : lkp l k with
    | none => rw [h1] at e; exact e
    | some y => rw [h1, h2] at this; exact absurd this (by simp [Two])
  | some x =>
    cases h2 : lkp l k with
    | none => rw [h1, h2] at this; exact absurd this (by simp [Two])
    | some y =>
      rw [h1, h2] at this
      rw [h1] at e
      subst e
      exact this
/-- what is held, in its shape -/
theorem HeldAt.shape {X : Nat → Prop} {w : World} {k : Bs} {v : Value} {o : Option En} (h : HeldAt X w k v o) : ∃ K T kd d a1 n1 c1 a2 n2 c2 a3 n3 c3 n, v = .agg #[.string K, .int .i64 kd, .string T, .slice a1 n1 c1, .slice a2 n2 c2, .slice a3 n3 c3, .int .i64 d, .int .u64 ((n : Nat) : Int)] ∧ d = (o.map (·.due)).getD 0 ∧ n = (o.map (·.ver)).getD 0 := by
  cases o with
  | none => exact ⟨_, _, _, _, _, _, _, _, _, _, _, _, _, 0, h, rfl, rfl⟩
  | some e =>
    obtain ⟨a1, c1, a2, c2, a3, c3, rfl, _⟩ := EnAt.shape h
    exact ⟨_, _, _, _, _, _, _, _, _, _, _, _, _, e.ver, rfl, rfl, rfl⟩
set_option maxHeartbeats 1000000 in
set_option maxRecDepth 100000 in
theorem find_call {F X : Nat → Prop} {b : Nat} {w : World} {S : Sp} (h : SP F X b w S) (k : Bs) (hk : k.length ≤ 281474976710656) :
    Calls Tryz.prog 101 #[ptr b, .string (mk k)] w fun e w' => ∃ v, e = .returned v ∧ HeldAt X w k v (lkp S.l k) ∧ Below w.heap.size w w' := by
  obtain ⟨FI, bm, bi, mv, L, s, h⟩ := h
  have hbl := lt_of h.blk
  obtain ⟨v, hl, hv⟩ := look (W := w.alloc (.cells #[.string ⟨#[]⟩, .int .i64 0, .string ⟨#[]⟩, .slice none 0 0, .slice none 0 0, .slice none 0 0, .int .i64 0, .int .u64 0] 51)) (h.map.alloc _) h.ent k hk
  have HV := hid_of hv
  obtain ⟨K, T, kd, d, a1, n1, c1, a2, n2, c2, a3, n3, c3, n, rfl, -, -⟩ := HeldAt.shape hv
  have c0 : w.cell? ⟨b, 0, none⟩ = some (.map (some bm)) := Lib.cell_of_heap h.blk 0
  clear hv h
  go_enter Tryz.func101, Tryz.ntmps101
  go_wp2_with fail
  exact bodyPost_ret (v := .agg #[.string K, .int .i64 kd, .string T, .slice a1 n1 c1, .slice a2 n2 c2, .slice a3 n3 c3, .int .i64 d, .int .u64 (n : Int)]) (by simp [results, Tryz.results101, go_sem]) rfl ⟨_, rfl, HV.out, alb _ _⟩
end Go.Proofs.YtminfpkigenahaaGreatDoor.SFind
end
section
namespace Go.Proofs.YtminfpkigenahaaGreatDoor.SSet
open Go.RowKit Go.Maps
open Go.Proofs.YtminfpkigenahaaGreatDoor.SpaceMath (wout withL lkp keys Ris toD at_D put_D del_D size_D with_ris wout_ris with_mem wout_mem lkp_with lkp_wout with_len)
open Go.Proofs.YtminfpkigenahaaGreatDoor.ValueMath (Vl chk small)
open Go.Proofs.YtminfpkigenahaaGreatDoor.Base (mk mk_list mk_size Gr hid_of)
open Go.Proofs.YtminfpkigenahaaGreatDoor.Turn
open Go.Proofs.YtminfpkigenahaaGreatDoor.RowB (Es)
open Go.Proofs.YtminfpkigenahaaGreatDoor.Swap (row_later law9 key9 turned_block owns_cells)
open Go.Proofs.YtminfpkigenahaaGreatDoor.IndexS (IX)
open Go.Proofs.YtminfpkigenahaaGreatDoor.SetS (Given)
open Go.Proofs.YtminfpkigenahaaGreatDoor.SBase
open Go.Proofs.YtminfpkigenahaaGreatDoor.SFind
open Go.Proofs.YtminfpkigenahaaGreatDoor.SMath
set_option linter.unusedVariables false
set_option linter.unusedSimpArgs false
theorem owns_norm {w : World} {b n : Nat} {L : KL Value} (h : w.ownsMap Tryz.prog 9 RH b n (toD L)) : w.ownsMap Tryz.prog 9 RH b L.length (toD L) := by
  obtain ⟨es, c, hb, F, hs, hD⟩ := h
  refine ⟨es, c, hb, F, ?_, hD⟩
  have e : Maps.size (toD L) = es.size := by rw [hD]; simp [Maps.size, length_sorted]
  rw [size_D] at e
  omega
theorem spa_len {F X FI : Nat → Prop} {b bm bi : Nat} {mv : Value} {L : KL Value} {s : Es} {w : World} {S : Sp} (h : SPa F X FI b bm bi mv L s w S) : L.length = S.l.length := two_len h.ris h.ris2 h.ent
theorem spa_ix {F X FI : Nat → Prop} {b bm bi : Nat} {mv : Value} {L : KL Value} {s : Es} {w : World} {S : Sp} (h : SPa F X FI b bm bi mv L s w S) {W : World} (e1 : Ev (fun k => k = bm) w W) : IX (Gr FI W) bi W s := by
  refine ix_re h.ix e1.size (fun k hl q => ?_) (fun k hl q => ?_) (fun k q => .inr q)
  · rcases q with q | q
    · exact e1.block k hl (fun e => h.nm (by rw [← e]; exact q))
    · omega
  · rcases q with q | q
    · exact .inl q
    · omega
/-- the map has turned, then the index -/
theorem set_fin {F X FI : Nat → Prop} {b bm bi : Nat} {mv : Value} {L : KL Value} {s : Es} {w : World} {S : Sp} (h : SPa F X FI b bm bi mv L s w S) {V w' : World} (e1 : Ev (fun k => k = bm) w V) {s' : Es} (ix' : IX (Gr FI V) bi w' s') (ev : Ev (Gr FI V) V w')
    {L' : KL Value} {l' : KL En} (own : V.ownsMap Tryz.prog 9 RH bm L'.length (toD L')) (ris : Ris L') (ris2 : Ris l') (kl : ∀ p ∈ L', p.1.length ≤ 281474976710656) (ent : ∀ k, Two (EnAt X w k) (lkp L' k) (lkp l' k)) (du : s'.Perm (dues l')) :
    Dn F X b w w' ⟨l', S.cnt, S.mrk⟩ := by
  have hbl := lt_of h.blk
  have hml := h.map.lt
  have nbm : b ≠ bm := fun e => by
    obtain ⟨es, c, q, _⟩ := h.map
    have := h.blk
    rw [e, q] at this
    cases this
  have st : ∀ k, k < w.heap.size → k ≠ bm → ¬ FI k → w'.heap[k]? = w.heap[k]? := fun k hk h1 h2 => (ev.block k (Nat.lt_of_lt_of_le hk e1.size) (fun q => q.elim h2 (fun q => by have := e1.size; omega))).trans (e1.block k hk h1)
  have evF : Ev F w w' := ⟨ev.os.trans e1.os, ev.tape.trans e1.tape, ev.output.trans e1.output, Nat.le_trans e1.size ev.size, fun k hk hn => st k hk (fun e => hn (by rw [e]; exact h.fm)) (fun q => hn (h.fi k q))⟩
  have evX : Ev X w w' := evF.mono fun k _ q => h.fx k q
  have hsz := Nat.le_trans e1.size ev.size
  refine ⟨fun k => F k ∨ (V.heap.size ≤ k ∧ k < w'.heap.size), ⟨fun k => (FI k ∨ V.heap.size ≤ k) ∧ k < w'.heap.size, bm, bi, mv, L', s', ?_⟩, evF, fun k q => q.imp id fun q => Nat.le_trans e1.size q.1⟩
  refine ⟨(st b hbl nbm h.nb).trans h.blk, .inl h.fb, .inl h.fm, fun k q => ?_, fun q => ?_, fun q => ?_, fun k q => ?_, fun k q => .inr q, fun k q => ?_, ?_, ris, ris2, kl, fun k => (ent k).mono fun a b q => EnAt.re q evX fun k hk q => ?_, ?_, du, h.mark.re (fun k hk _ q2 _ q4 => st k hk q4 q2) (fun k _ q => .inl q) (fun k hk q => ?_) evX (fun k hk q => ?_), h.num⟩
  · rcases q.1 with r | r
    · exact .inl (h.fi k r)
    · exact .inr ⟨r, q.2⟩
  · rcases q.1 with r | r
    · exact h.nb r
    · have := e1.size; omega
  · rcases q.1 with r | r
    · exact h.nm r
    · have := e1.size; omega
  · rcases q with r | r
    · exact Nat.lt_of_lt_of_le (h.lo k r) hsz
    · exact r.2
  · rcases q with r | r | r
    · exact Nat.lt_of_lt_of_le (h.xl k r) hsz
    · exact Nat.lt_of_lt_of_le (h.lo k r) hsz
    · exact r.2
  · obtain ⟨es, c, q, r⟩ := own
    exact ⟨es, c, (ev.block bm (lt_of q) (fun e => e.elim h.nm (fun e => by have := e1.size; omega))).trans q, r⟩
  · rcases q with q | q | q
    · exact q
    · exact h.fx k q
    · have := e1.size; omega
  · refine ix_re ix' (Nat.le_refl _) (fun _ _ _ => rfl) (fun k hl q => .inl ⟨q, hl⟩) (fun k q => .inr q)
  · rcases q.1 with r | r
    · exact r
    · have := e1.size; omega
  · rcases q with q | q | q
    · exact q
    · exact h.fx k q
    · have := e1.size; omega
/-- eight cells of a block -/
theorem box8 {w : World} {b : Nat} {x0 x1 x2 x3 x4 x5 x6 x7 : Value} {t : TypeId} (h : w.heap[b]? = some (.cells #[x0, x1, x2, x3, x4, x5, x6, x7] t (0, 0))) :
    (w.cell? ⟨b, 0, none⟩ = some x0 ∧ w.cell? ⟨b, 1, none⟩ = some x1 ∧ w.cell? ⟨b, 2, none⟩ = some x2 ∧ w.cell? ⟨b, 3, none⟩ = some x3 ∧ w.cell? ⟨b, 4, none⟩ = some x4 ∧ w.cell? ⟨b, 5, none⟩ = some x5 ∧ w.cell? ⟨b, 6, none⟩ = some x6 ∧ w.cell? ⟨b, 7, none⟩ = some x7) ∧ ∀ i, w.frozen? ⟨b, i, none⟩ = false :=
  ⟨⟨Lib.cell_of_heap h 0, Lib.cell_of_heap h 1, Lib.cell_of_heap h 2, Lib.cell_of_heap h 3, Lib.cell_of_heap h 4, Lib.cell_of_heap h 5, Lib.cell_of_heap h 6, Lib.cell_of_heap h 7⟩, fun i => Lib.frozen_of_heap h i⟩
theorem ev_bel {M : Nat → Prop} {w W V : World} (e : Ev M w W) (b : Below W.heap.size W V) : Ev M w V := e.trans (Ev.of_below b)
/-- the map's update at a later world -/
theorem store_at {F X FI : Nat → Prop} {b bm bi : Nat} {mv : Value} {L : KL Value} {s : Es} {w : World} {S : Sp} (h : SPa F X FI b bm bi mv L s w S) (hS : S.l.length + 1 < 1099511627776) (k : Bs) (hk : k.length ≤ 281474976710656) (v : Value) {w1 : World} (b1 : Below w.heap.size w w1) :
    ∃ W, (Instr.mapUpdate 39 (.map (some bm)) (.string (mk k)) v).run Tryz.prog w1.drew = .ok () W ∧ W.ownsMap Tryz.prog 9 RH bm (withL L k v).length (toD (withL L k v)) ∧ Ev (fun k => k = bm) w W ∧ (∀ k, k < w1.heap.size → k ≠ bm → W.heap[k]? = w1.heap[k]?) := by
  have hm := (h.below b1).map
  obtain ⟨W, hu, m2, t2⟩ := hm.drew.store law9 Tryz.underlying39 (by rw [spa_len h]; unfold maxLen; omega) (key9 k hk) (val := v) (d := .held v) (ps := []) rfl
  rw [put_D] at m2
  refine ⟨W, hu, owns_norm m2, (Ev.of_below b1).trans ((Ev.refl _ _).drew.trans (Ev.turned t2 rfl)), fun k _ hk => turned_block t2 k hk⟩
theorem delete_at {F X FI : Nat → Prop} {b bm bi : Nat} {mv : Value} {L : KL Value} {s : Es} {w : World} {S : Sp} (h : SPa F X FI b bm bi mv L s w S) (k : Bs) (hk : k.length ≤ 281474976710656) {w1 : World} (b1 : Below w.heap.size w w1) :
    ∃ W, (Builtin.delete_ #[39, 9] 0 #[.map (some bm), .string (mk k)]).run Tryz.prog w1 = .ok (.tuple #[]) W ∧ W.ownsMap Tryz.prog 9 RH bm (wout L k).length (toD (wout L k)) ∧ Ev (fun k => k = bm) w W ∧ (∀ k, k < w1.heap.size → k ≠ bm → W.heap[k]? = w1.heap[k]?) := by
  have hm := (h.below b1).map
  obtain ⟨W, hu, m2, t2⟩ := hm.drop law9 Tryz.underlying39 (key9 k hk) 0
  rw [del_D] at m2
  refine ⟨W, hu, owns_norm m2, (Ev.of_below b1).trans (Ev.turned t2 rfl), fun k _ hk => turned_block t2 k hk⟩
theorem two_with {X : Nat → Prop} {w : World} {L : KL Value} {l : KL En} (h : ∀ k, Two (EnAt X w k) (lkp L k) (lkp l k)) {k : Bs} {v : Value} {e : En} (hv : EnAt X w k v e) : ∀ x, Two (EnAt X w x) (lkp (withL L k v) x) (lkp (withL l k e) x) := fun x => by
  rw [lkp_with, lkp_with]
  by_cases q : k = x
  · rw [if_pos q, if_pos q, ← q]; exact hv
  · rw [if_neg q, if_neg q]; exact h x
theorem two_wout {X : Nat → Prop} {w : World} {L : KL Value} {l : KL En} (h : ∀ k, Two (EnAt X w k) (lkp L k) (lkp l k)) (k : Bs) : ∀ x, Two (EnAt X w x) (lkp (wout L k) x) (lkp (wout l k) x) := fun x => by
  by_cases q : x = k
  · rw [q, lkp_wout_same, lkp_wout_same]; trivial
  · rw [lkp_wout _ _ _ q, lkp_wout _ _ _ q]; exact h x
set_option maxHeartbeats 1000000 in
set_option maxRecDepth 100000 in
theorem set_due {F X : Nat → Prop} {b : Nat} {w : World} {S : Sp} (h : SP F X b w S) (hS : S.l.length + 1 < 1099511627776) (k : Bs) (hk : k.length ≤ 281474976710656) {v : Value} {e : En} (hv : EnAt X w k v e) (hd : 0 < e.due) :
    Calls Tryz.prog 15 #[ptr b, .string (mk k), v] w fun r w' => r = .returned (.tuple #[]) ∧ Dn F X b w w' ⟨withL S.l k e, S.cnt, S.mrk⟩ := by
  obtain ⟨FI, bm, bi, mv, L, s, h⟩ := h
  have HE := hid_of hv
  obtain ⟨a1, c1, a2, c2, a3, c3, rfl, -⟩ := hv.shape
  unfold eV at HE ⊢
  have hn := hv.ver.1
  have hdd := hv.due
  clear hv
  generalize e.val.list.length = n1 at *
  generalize e.val.fields.length = n2 at *
  generalize e.val.ranked.length = n3 at *
  generalize mk e.val.text = T at *
  generalize e.val.kind = kd at *
  have HD := hid_of (show Ris (withL L k (.agg #[.string (mk k), .int .i64 kd, .string T, .slice a1 n1 c1, .slice a2 n2 c2, .slice a3 n3 c3, .int .i64 e.due, .int .u64 (e.ver : Int)])) ∧ ∀ s', Given s k e.due s' → s'.Perm (dues (withL S.l k e)) from ⟨with_ris h.ris _ _, fun s' hg => du_set h.ris2 h.du hd hg⟩)
  have hbl := lt_of h.blk
  have HH := hid_of h
  obtain ⟨W0, hW0⟩ : ∃ W0, W0 = w.alloc (.cells #[.string (mk k), .int .i64 kd, .string T, .slice a1 n1 c1, .slice a2 n2 c2, .slice a3 n3 c3, .int .i64 e.due, .int .u64 (e.ver : Int)] 51) := ⟨_, rfl⟩
  have x0 : W0.heap[w.heap.size]? = some (.cells #[.string (mk k), .int .i64 kd, .string T, .slice a1 n1 c1, .slice a2 n2 c2, .slice a3 n3 c3, .int .i64 e.due, .int .u64 (e.ver : Int)] 51 (0, 0)) := by rw [hW0]; exact heap_alloc_new w _
  have bW : Below w.heap.size w W0 := by rw [hW0]; exact alb _ _
  have HT := hid_of (there_call (mk k) T kd e.due a1 a2 a3 n1 c1 n2 c2 n3 c3 e.ver W0)
  rw [decide_eq_true hn] at HT
  have HX := hid_of x0
  have HB := hid_of bW
  have HW := hid_of hW0
  clear hW0 x0 bW h
  go_enter Tryz.func15, Tryz.ntmps15
  go_wp2_with fail
  rw [← HW.out]
  refine HT.out.mono ?_
  rintro r w1 ⟨rfl, hb1⟩
  have B1 := hid_of (HB.out.trans (hb1.mono HB.out.size))
  have x1 := (hb1.block _ (lt_of HX.out)).trans HX.out
  have s1 := HH.out.below B1.out
  obtain ⟨W2, hu, own2, e2, st2⟩ := store_at HH.out hS k hk (.agg #[.string (mk k), .int .i64 kd, .string T, .slice a1 n1 c1, .slice a2 n2 c2, .slice a3 n3 c3, .int .i64 e.due, .int .u64 (e.ver : Int)]) B1.out
  have nxm : w.heap.size ≠ bm := Nat.ne_of_gt HH.out.map.lt
  have nbm : b ≠ bm := Ne.symm (fun q => by
    obtain ⟨es, c, m, _⟩ := HH.out.map
    have := HH.out.blk
    rw [← q, m] at this
    cases this)
  have x2 := (st2 _ (lt_of x1) nxm).trans x1
  have b2 := (st2 _ (lt_of s1.blk) nbm).trans s1.blk
  have HX2 := hid_of x2
  have HB2 := hid_of b2
  have HO := hid_of (And.intro own2 e2)
  have c0 : w1.cell? ⟨b, 0, none⟩ = some (.map (some bm)) := Lib.cell_of_heap s1.blk 0
  obtain ⟨⟨y0, y1, y2, y3, y4, y5, y6, y7⟩, fz⟩ := box8 x1
  clear hb1 x1 s1 own2 e2 st2 x2 b2 HT HX
  go_wp2_with fail
  go_region
  clear c0 y0 y1 y2 y3 y4 y5 y6 y7 fz hu
  have y6 : W2.cell? ⟨w.heap.size, 6, none⟩ = some (.int .i64 e.due) := Lib.cell_of_heap HX2.out 6
  have c1 : W2.cell? ⟨b, 1, none⟩ = some (ptr bi) := Lib.cell_of_heap HB2.out 1
  have HC : Hid (∀ V, Below W2.heap.size W2 V → Calls Tryz.prog 26 #[ptr bi, .string (mk k), .int .i64 e.due] V fun r w' => r = .returned (.int .i64 0) ∧ Dn F X b w w' ⟨withL S.l k e, S.cnt, S.mrk⟩ ∧ w'.cell? ⟨b, 1, none⟩ = some (ptr bi) ∧ w'.cell? ⟨w.heap.size, 6, none⟩ = some (.int .i64 e.due)) := hid_of fun V hV => by
    have eV := ev_bel HO.out.2 hV
    have ixV := spa_ix HH.out eV
    have hs : s.length + 1 < 1099511627776 := by have := HH.out.du.length_eq; have := dues_len S.l; omega
    refine (SetS.set_call ixV k hk e.due (by omega) hdd.2 hs).mono ?_
    rintro r w' ⟨rfl, ⟨s', hg, hi⟩, hev⟩
    refine ⟨rfl, set_fin HH.out eV hi hev (L' := withL L k _) ?_ HD.out.1 (with_ris HH.out.ris2 _ _) (fun p hp => ?_) (two_with HH.out.ent HE.out) (HD.out.2 s' hg), ?_, ?_⟩
    · obtain ⟨es, c, q, rr⟩ := HO.out.1
      exact ⟨es, c, (hV.block bm (lt_of q)).trans q, rr⟩
    · rcases with_mem hp with rfl | q
      · exact hk
      · exact HH.out.kl p q
    · have l := lt_of HB2.out
      exact Lib.cell_of_heap ((hev.block b (Nat.lt_of_lt_of_le l hV.size) (fun q => q.elim HH.out.nb (fun q => by have := hV.size; omega))).trans ((hV.block b l).trans HB2.out)) 1
    · have l := lt_of HX2.out
      exact Lib.cell_of_heap ((hev.block _ (Nat.lt_of_lt_of_le l hV.size) (fun q => q.elim (fun q => Nat.lt_irrefl _ (HH.out.lo _ (HH.out.fi _ q))) (fun q => by have := hV.size; omega))).trans ((hV.block _ l).trans HX2.out)) 6
  go_wp2_with fail
  go_region_held3 (fun V => V.cell? ⟨b, 1, none⟩ = some (ptr bi) ∧ V.cell? ⟨w.heap.size, 6, none⟩ = some (.int .i64 e.due)) (first | exact ⟨c1, y6⟩ | exact ⟨c3, y3⟩) (first
    | (go_at_call 26; refine (HC.out _ (by first | exact Below.refl _ _ | exact (Below.refl _ _).drew)).mono ?_; rintro r w3 ⟨rfl, hdn, c3, y3⟩; have HF := hid_of hdn; clear hdn))
  go_wp2_with fail
  go_end0
  exact ⟨rfl, HF.out⟩
theorem drop_at {F X FI : Nat → Prop} {b bm bi : Nat} {mv : Value} {L : KL Value} {s : Es} {w : World} {S : Sp} (h : SPa F X FI b bm bi mv L s w S) {V : World} (eV : Ev (fun k => k = bm) w V) (k : Bs) (hk : k.length ≤ 281474976710656) :
    Calls Tryz.prog 27 #[ptr bi, .string (mk k)] V fun r w' => ∃ q s', r = .returned (.bool q) ∧ s'.Perm ((dues S.l).filter fun p => !(p.1 == k)) ∧ IX (Gr FI V) bi w' s' ∧ Ev (Gr FI V) V w' := by
  refine (IndexS.drop_call (spa_ix h eV) k hk).mono ?_
  rintro r w' ⟨q, rfl, ⟨rfl, x, s', hx, hp, hi⟩ | ⟨rfl, hno, hi⟩, hev⟩
  · exact ⟨true, s', rfl, left_of (dues_keys h.ris2) hx h.du hp, hi, hev⟩
  · exact ⟨false, s, rfl, none_left h.du hno, hi, hev⟩
set_option maxHeartbeats 1000000 in
set_option maxRecDepth 100000 in
theorem set_zero {F X : Nat → Prop} {b : Nat} {w : World} {S : Sp} (h : SP F X b w S) (hS : S.l.length + 1 < 1099511627776) (k : Bs) (hk : k.length ≤ 281474976710656) {v : Value} {e : En} (hv : EnAt X w k v e) (hd : e.due = 0) :
    Calls Tryz.prog 15 #[ptr b, .string (mk k), v] w fun r w' => r = .returned (.tuple #[]) ∧ Dn F X b w w' ⟨withL S.l k e, S.cnt, S.mrk⟩ := by
  obtain ⟨FI, bm, bi, mv, L, s, h⟩ := h
  have HE := hid_of hv
  obtain ⟨a1, c1, a2, c2, a3, c3, rfl, -⟩ := hv.shape
  unfold eV at HE ⊢
  have hn := hv.ver.1
  have hdd := hv.due
  clear hv
  generalize e.val.list.length = n1 at *
  generalize e.val.fields.length = n2 at *
  generalize e.val.ranked.length = n3 at *
  generalize mk e.val.text = T at *
  generalize e.val.kind = kd at *
  have HD := hid_of (show Ris (withL L k (.agg #[.string (mk k), .int .i64 kd, .string T, .slice a1 n1 c1, .slice a2 n2 c2, .slice a3 n3 c3, .int .i64 e.due, .int .u64 (e.ver : Int)])) ∧ ∀ s' : Es, s'.Perm ((dues S.l).filter fun p => !(p.1 == k)) → s'.Perm (dues (withL S.l k e)) from ⟨with_ris h.ris _ _, fun s' hg => du_zero (by omega) hg⟩)
  have hd0 : ¬ 0 < e.due := by omega
  clear hd
  have hbl := lt_of h.blk
  have HH := hid_of h
  obtain ⟨W0, hW0⟩ : ∃ W0, W0 = w.alloc (.cells #[.string (mk k), .int .i64 kd, .string T, .slice a1 n1 c1, .slice a2 n2 c2, .slice a3 n3 c3, .int .i64 e.due, .int .u64 (e.ver : Int)] 51) := ⟨_, rfl⟩
  have x0 : W0.heap[w.heap.size]? = some (.cells #[.string (mk k), .int .i64 kd, .string T, .slice a1 n1 c1, .slice a2 n2 c2, .slice a3 n3 c3, .int .i64 e.due, .int .u64 (e.ver : Int)] 51 (0, 0)) := by rw [hW0]; exact heap_alloc_new w _
  have bW : Below w.heap.size w W0 := by rw [hW0]; exact alb _ _
  have HT := hid_of (there_call (mk k) T kd e.due a1 a2 a3 n1 c1 n2 c2 n3 c3 e.ver W0)
  rw [decide_eq_true hn] at HT
  have HX := hid_of x0
  have HB := hid_of bW
  have HW := hid_of hW0
  clear hW0 x0 bW h
  go_enter Tryz.func15, Tryz.ntmps15
  go_wp2_with fail
  rw [← HW.out]
  refine HT.out.mono ?_
  rintro r w1 ⟨rfl, hb1⟩
  have B1 := hid_of (HB.out.trans (hb1.mono HB.out.size))
  have x1 := (hb1.block _ (lt_of HX.out)).trans HX.out
  have s1 := HH.out.below B1.out
  obtain ⟨W2, hu, own2, e2, st2⟩ := store_at HH.out hS k hk (.agg #[.string (mk k), .int .i64 kd, .string T, .slice a1 n1 c1, .slice a2 n2 c2, .slice a3 n3 c3, .int .i64 e.due, .int .u64 (e.ver : Int)]) B1.out
  have nxm : w.heap.size ≠ bm := Nat.ne_of_gt HH.out.map.lt
  have nbm : b ≠ bm := Ne.symm (fun q => by
    obtain ⟨es, c, m, _⟩ := HH.out.map
    have := HH.out.blk
    rw [← q, m] at this
    cases this)
  have x2 := (st2 _ (lt_of x1) nxm).trans x1
  have b2 := (st2 _ (lt_of s1.blk) nbm).trans s1.blk
  have HX2 := hid_of x2
  have HB2 := hid_of b2
  have HO := hid_of (And.intro own2 e2)
  have c0 : w1.cell? ⟨b, 0, none⟩ = some (.map (some bm)) := Lib.cell_of_heap s1.blk 0
  obtain ⟨⟨y0, y1, y2, y3, y4, y5, y6, y7⟩, fz⟩ := box8 x1
  clear hb1 x1 s1 own2 e2 st2 x2 b2 HT HX
  go_wp2_with fail
  go_region
  clear c0 y0 y1 y2 y3 y4 y5 y6 y7 fz hu
  have y6 : W2.cell? ⟨w.heap.size, 6, none⟩ = some (.int .i64 e.due) := Lib.cell_of_heap HX2.out 6
  have c1 : W2.cell? ⟨b, 1, none⟩ = some (ptr bi) := Lib.cell_of_heap HB2.out 1
  have HC : Hid (Calls Tryz.prog 27 #[ptr bi, .string (mk k)] W2 fun r w' => ∃ q, r = .returned (.bool q) ∧ Dn F X b w w' ⟨withL S.l k e, S.cnt, S.mrk⟩) := hid_of (by
    refine (drop_at HH.out HO.out.2 k hk).mono ?_
    rintro r w' ⟨q, s', rfl, hg, hi, hev⟩
    refine ⟨q, rfl, set_fin HH.out HO.out.2 hi hev (L' := withL L k _) HO.out.1 HD.out.1 (with_ris HH.out.ris2 _ _) (fun p hp => ?_) (two_with HH.out.ent HE.out) (HD.out.2 s' hg)⟩
    rcases with_mem hp with rfl | q
    · exact hk
    · exact HH.out.kl p q)
  go_wp2_with fail
  refine HC.out.mono ?_
  rintro r w3 ⟨q, rfl, hdn⟩
  have HF := hid_of hdn
  clear hdn
  go_wp2_with fail
  go_end0
  exact ⟨rfl, HF.out⟩
set_option maxHeartbeats 1000000 in
set_option maxRecDepth 100000 in
theorem set_none {F X : Nat → Prop} {b : Nat} {w : World} {S : Sp} (h : SP F X b w S) (k : Bs) (hk : k.length ≤ 281474976710656) :
    Calls Tryz.prog 15 #[ptr b, .string (mk k), zE] w fun r w' => r = .returned (.tuple #[]) ∧ Dn F X b w w' ⟨wout S.l k, S.cnt, S.mrk⟩ := by
  obtain ⟨FI, bm, bi, mv, L, s, h⟩ := h
  have HD := hid_of (show Ris (wout L k) ∧ dues (wout S.l k) = ((dues S.l).filter fun p => !(p.1 == k)) from ⟨wout_ris h.ris _, dues_wout _ _⟩)
  have hbl := lt_of h.blk
  have HH := hid_of h
  obtain ⟨W0, hW0⟩ : ∃ W0, W0 = w.alloc (.cells #[.string ⟨#[]⟩, .int .i64 0, .string ⟨#[]⟩, .slice none 0 0, .slice none 0 0, .slice none 0 0, .int .i64 0, .int .u64 0] 51) := ⟨_, rfl⟩
  have x0 : W0.heap[w.heap.size]? = some (.cells #[.string ⟨#[]⟩, .int .i64 0, .string ⟨#[]⟩, .slice none 0 0, .slice none 0 0, .slice none 0 0, .int .i64 0, .int .u64 0] 51 (0, 0)) := by rw [hW0]; exact heap_alloc_new w _
  have bW : Below w.heap.size w W0 := by rw [hW0]; exact alb _ _
  have HT := hid_of (there_call ⟨#[]⟩ ⟨#[]⟩ 0 0 none none none 0 0 0 0 0 0 0 W0)
  rw [decide_eq_false (Nat.lt_irrefl 0)] at HT
  have HX := hid_of x0
  have HB := hid_of bW
  have HW := hid_of hW0
  clear hW0 x0 bW h
  go_enter Tryz.func15, Tryz.ntmps15
  go_wp2_with fail
  rw [← HW.out]
  refine HT.out.mono ?_
  rintro r w1 ⟨rfl, hb1⟩
  have B1 := hid_of (HB.out.trans (hb1.mono HB.out.size))
  have x1 := (hb1.block _ (lt_of HX.out)).trans HX.out
  have s1 := HH.out.below B1.out
  obtain ⟨W2, hu, own2, e2, st2⟩ := delete_at HH.out k hk B1.out
  have nxm : w.heap.size ≠ bm := Nat.ne_of_gt HH.out.map.lt
  have nbm : b ≠ bm := Ne.symm (fun q => by
    obtain ⟨es, c, m, _⟩ := HH.out.map
    have := HH.out.blk
    rw [← q, m] at this
    cases this)
  have x2 := (st2 _ (lt_of x1) nxm).trans x1
  have b2 := (st2 _ (lt_of s1.blk) nbm).trans s1.blk
  have HO := hid_of (And.intro own2 e2)
  have c0 : w1.cell? ⟨b, 0, none⟩ = some (.map (some bm)) := Lib.cell_of_heap s1.blk 0
  have y6 : W2.cell? ⟨w.heap.size, 6, none⟩ = some (.int .i64 0) := Lib.cell_of_heap x2 6
  have c1 : W2.cell? ⟨b, 1, none⟩ = some (ptr bi) := Lib.cell_of_heap b2 1
  clear hb1 x1 s1 own2 e2 st2 x2 b2 HT HX
  have HC : Hid (Calls Tryz.prog 27 #[ptr bi, .string (mk k)] W2 fun r w' => ∃ q, r = .returned (.bool q) ∧ Dn F X b w w' ⟨wout S.l k, S.cnt, S.mrk⟩) := hid_of (by
    refine (drop_at HH.out HO.out.2 k hk).mono ?_
    rintro r w' ⟨q, s', rfl, hg, hi, hev⟩
    exact ⟨q, rfl, set_fin HH.out HO.out.2 hi hev (L' := wout L k) HO.out.1 HD.out.1 (wout_ris HH.out.ris2 _) (fun p hp => HH.out.kl p (wout_mem hp)) (two_wout HH.out.ent k) (by rw [HD.out.2]; exact hg)⟩)
  go_wp2_with fail
  refine HC.out.mono ?_
  rintro r w3 ⟨q, rfl, hdn⟩
  have HF := hid_of hdn
  clear hdn
  go_wp2_with fail
  go_end0
  exact ⟨rfl, HF.out⟩
/-- set: any entry that there is, or none -/
theorem set_call {F X : Nat → Prop} {b : Nat} {w : World} {S : Sp} (h : SP F X b w S) (hS : S.l.length + 1 < 1099511627776) (k : Bs) (hk : k.length ≤ 281474976710656) {v : Value} {o : Option En} (hv : HeldAt X w k v o) :
    Calls Tryz.prog 15 #[ptr b, .string (mk k), v] w fun r w' => r = .returned (.tuple #[]) ∧ Dn F X b w w' ⟨upd S.l k o, S.cnt, S.mrk⟩ := by
  cases o with
  | none =>
    have e : v = zE := hv
    subst e
    exact set_none h k hk
  | some e =>
    have hv : EnAt X w k v e := hv
    rcases Decidable.em (0 < e.due) with q | q
    · exact set_due h hS k hk hv q
    · exact set_zero h hS k hk hv (by have := hv.due; omega)
end Go.Proofs.YtminfpkigenahaaGreatDoor.SSet
end
