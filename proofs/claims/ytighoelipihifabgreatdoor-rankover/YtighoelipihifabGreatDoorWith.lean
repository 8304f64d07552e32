/- A tree with an entry more. -/
import Derived.Test.YtighoelipihifabGreatDoorFirst
import Derived.Test.YtighoelipihifabGreatDoorLast2
namespace Go.Proofs.YtighoelipihifabGreatDoor.With
open Go.RowKit Go.Maps Go.Sort
open Go.Proofs.YtighoelipihifabGreatDoor.MapMath
open Go.Proofs.YtighoelipihifabGreatDoor.RankMath
open Go.Proofs.YtighoelipihifabGreatDoor.RankMath2
open Go.Proofs.YtighoelipihifabGreatDoor.RankMath3
open Go.Proofs.YtighoelipihifabGreatDoor.Base
open Go.Proofs.YtighoelipihifabGreatDoor.Cmp
open Go.Proofs.YtighoelipihifabGreatDoor.Tree
open Go.Proofs.YtighoelipihifabGreatDoor.Piece
open Go.Proofs.YtighoelipihifabGreatDoor.Settle
open Go.Proofs.YtighoelipihifabGreatDoor.First
set_option linter.unusedVariables false
set_option linter.unusedSimpArgs false

/- one side of a node has been laid anew -/
structure Sd (b : Nat) (l : T) (x : Ent) (r : T) (S : Nat → Prop) (w w5 : World) : Prop where
  blk : ∃ n0, w5.heap[b]? = some (nB x n0 l.ptr r.ptr)
  tl : Tr w5 l
  tr : Tr w5 r
  nd : (b :: (l.blks ++ r.blks)).Nodup
  to : ∀ L t w6, Rs L (fun k => k ∈ b :: (l.blks ++ r.blks)) w5 t w6 → Rs L S w t w6
theorem set_mo {b i : Nat} {e : Ent} {n : Int} {l r : Value} {w : World} (h : w.heap[b]? = some (nB e n l r)) (v : Value) : Mo (fun k => k = b) w (w.setCell ⟨b, i, none⟩ v) := Mo.set (S := fun k => k = b) h rfl v
theorem side_left {b : Nat} {l r t : T} {x : Ent} {w W w4 : World} {L : EL} (ht : Tr w (.node b l x r)) (nd : (T.node b l x r).blks.Nodup) (hW : Below w.heap.size w W) (hR : Rs L (fun k => k ∈ l.blks) W t w4) :
    Sd b t x r (fun k => k ∈ (T.node b l x r).blks) w (w4.setCell ⟨b, 3, none⟩ t.ptr) := by
  obtain ⟨h1, h2, h3⟩ := ht
  have nd' := List.nodup_cons.1 nd
  have na := List.nodup_append.1 nd'.2
  have hbl : b ∉ l.blks := fun h => nd'.1 (List.mem_append.2 (Or.inl h))
  have hbr : b ∉ r.blks := fun h => nd'.1 (List.mem_append.2 (Or.inr h))
  have hbW : b < W.heap.size := Nat.lt_of_lt_of_le (lt_of h1) hW.size
  have hbt : b ∉ t.blks := fun h => (hR.own b h).elim hbl (fun q => by omega)
  have hrt : ∀ k ∈ t.blks, k ∉ r.blks := fun k hk hr => by
    rcases hR.own k hk with q | q
    · exact na.2.2 k q k hr rfl
    · have := (h3.lt k hr).1; have := hW.size; omega
  have hb4 : w4.heap[b]? = some (nB x ((l.list.length + 1 + r.list.length : Nat) : Int) l.ptr r.ptr) := (hR.mo.block b hbW hbl).trans ((hW.block b (lt_of h1)).trans h1)
  have hr4 : Tr w4 r := (h3.below hW).mo hR.mo (fun k hk hl => na.2.2 k hl k hk rfl)
  have m5 := set_mo (i := 3) hb4 t.ptr
  refine ⟨⟨_, set_at hb4 _⟩, hR.tr.mo m5 (fun k hk e => hbt (e ▸ hk)), hr4.mo m5 (fun k hk e => hbr (e ▸ hk)), List.nodup_cons.2 ⟨fun h => (List.mem_append.1 h).elim hbt hbr, List.nodup_append.2 ⟨hR.nd, na.2.1, fun a ha c hc e => hrt a ha (e ▸ hc)⟩⟩, ?_⟩
  intro LL t2 w6 h
  have m1 : Mo (fun k => k ∈ (T.node b l x r).blks) w W := Mo.of_below hW
  have m2 := Mo.trans m1 hR.mo (fun i _ hi => List.mem_cons_of_mem _ (List.mem_append.2 (Or.inl hi)))
  have m3 := Mo.trans m2 m5 (fun i _ hi => by rw [hi]; exact List.mem_cons_self)
  have key : ∀ i, i < w.heap.size → i ∈ b :: (t.blks ++ r.blks) → i ∈ (T.node b l x r).blks := fun i hi hm => by
    rcases List.mem_cons.1 hm with rfl | hm
    · exact List.mem_cons_self
    · rcases List.mem_append.1 hm with hm | hm
      · rcases hR.own i hm with q | q
        · exact List.mem_cons_of_mem _ (List.mem_append.2 (Or.inl q))
        · have := hW.size; omega
      · exact List.mem_cons_of_mem _ (List.mem_append.2 (Or.inr hm))
  refine ⟨h.list, h.tr, h.nd, fun k hk => ?_, Mo.trans m3 h.mo key⟩
  rcases h.own k hk with q | q
  · by_cases hlt : k < w.heap.size
    · exact Or.inl (key k hlt q)
    · exact Or.inr (by omega)
  · exact Or.inr (Nat.le_trans m3.size q)
theorem side_right {b : Nat} {l r t : T} {x : Ent} {w W w4 : World} {L : EL} (ht : Tr w (.node b l x r)) (nd : (T.node b l x r).blks.Nodup) (hW : Below w.heap.size w W) (hR : Rs L (fun k => k ∈ r.blks) W t w4) :
    Sd b l x t (fun k => k ∈ (T.node b l x r).blks) w (w4.setCell ⟨b, 4, none⟩ t.ptr) := by
  obtain ⟨h1, h2, h3⟩ := ht
  have nd' := List.nodup_cons.1 nd
  have na := List.nodup_append.1 nd'.2
  have hbl : b ∉ l.blks := fun h => nd'.1 (List.mem_append.2 (Or.inl h))
  have hbr : b ∉ r.blks := fun h => nd'.1 (List.mem_append.2 (Or.inr h))
  have hbW : b < W.heap.size := Nat.lt_of_lt_of_le (lt_of h1) hW.size
  have hbt : b ∉ t.blks := fun h => (hR.own b h).elim hbr (fun q => by omega)
  have hlt : ∀ k ∈ l.blks, k ∉ t.blks := fun k hk hr => by
    rcases hR.own k hr with q | q
    · exact na.2.2 k hk k q rfl
    · have := (h2.lt k hk).1; have := hW.size; omega
  have hb4 : w4.heap[b]? = some (nB x ((l.list.length + 1 + r.list.length : Nat) : Int) l.ptr r.ptr) := (hR.mo.block b hbW hbr).trans ((hW.block b (lt_of h1)).trans h1)
  have hl4 : Tr w4 l := (h2.below hW).mo hR.mo (fun k hk hr => na.2.2 k hk k hr rfl)
  have m5 := set_mo (i := 4) hb4 t.ptr
  refine ⟨⟨_, set_at hb4 _⟩, hl4.mo m5 (fun k hk e => hbl (e ▸ hk)), hR.tr.mo m5 (fun k hk e => hbt (e ▸ hk)), List.nodup_cons.2 ⟨fun h => (List.mem_append.1 h).elim hbl hbt, List.nodup_append.2 ⟨na.1, hR.nd, fun a ha c hc e => hlt a ha (e ▸ hc)⟩⟩, ?_⟩
  intro LL t2 w6 h
  have m1 : Mo (fun k => k ∈ (T.node b l x r).blks) w W := Mo.of_below hW
  have m2 := Mo.trans m1 hR.mo (fun i _ hi => List.mem_cons_of_mem _ (List.mem_append.2 (Or.inr hi)))
  have m3 := Mo.trans m2 m5 (fun i _ hi => by rw [hi]; exact List.mem_cons_self)
  have key : ∀ i, i < w.heap.size → i ∈ b :: (l.blks ++ t.blks) → i ∈ (T.node b l x r).blks := fun i hi hm => by
    rcases List.mem_cons.1 hm with rfl | hm
    · exact List.mem_cons_self
    · rcases List.mem_append.1 hm with hm | hm
      · exact List.mem_cons_of_mem _ (List.mem_append.2 (Or.inl hm))
      · rcases hR.own i hm with q | q
        · exact List.mem_cons_of_mem _ (List.mem_append.2 (Or.inr q))
        · have := hW.size; omega
  refine ⟨h.list, h.tr, h.nd, fun k hk => ?_, Mo.trans m3 h.mo key⟩
  rcases h.own k hk with q | q
  · by_cases hlt : k < w.heap.size
    · exact Or.inl (key k hlt q)
    · exact Or.inr (by omega)
  · exact Or.inr (Nat.le_trans m3.size q)
theorem sd_call {b : Nat} {l r : T} {x : Ent} {S : Nat → Prop} {w w5 : World} (h : Sd b l x r S w w5) (hn : l.list.length + 1 + r.list.length ≤ big) : Calls Tryz.prog 54 #[.pointer (some ⟨b, 0, none⟩)] w5 fun e w' => RsE (l.list ++ x :: r.list) S w e w' := by
  obtain ⟨n0, hb⟩ := h.blk
  exact (settled_call b l x r n0 w5 hb h.tl h.tr h.nd hn).mono fun e w' ⟨q, t, h1, h2⟩ => ⟨q, t, h1, h2.out.1, h.to _ _ _ h2.out.2⟩
theorem put_nil (e : Ent) : put e [] = [e] := rfl
set_option maxHeartbeats 8000000 in
set_option maxRecDepth 100000 in
theorem with_call : ∀ (t : T) (e : Ent) (w : World), Tr w t → t.blks.Nodup → Srt t.list → e ∉ t.list → t.list.length < big → Calls Tryz.prog 32 #[t.ptr, eV e] w fun x w' => RsE (put e t.list) (fun k => k ∈ t.blks) w x w'
  | .nil, e, w, ht, nd, hs, he, hn => by
    have H1 := hid_of (bal_call 1 (.slice (some ⟨w.heap.size + 1, 0, none⟩) 1 1) [e] ((w.alloc (.cells #[.string (mk e.1), .int .i64 e.2] 35)).alloc (.cells #[.string (mk e.1), .int .i64 e.2] 35)) (by simp) (by have := fs_one (w.alloc (.cells #[.string (mk e.1), .int .i64 e.2] 35)) e; simpa using this) (by simp [big]))
    have HB : Hid (Below w.heap.size w ((w.alloc (.cells #[.string (mk e.1), .int .i64 e.2] 35)).alloc (.cells #[.string (mk e.1), .int .i64 e.2] 35))) := hid_of (Base.bel (bnew w _) (bnew _ _) (Nat.le_refl _))
    clear ht nd hs he hn
    show Calls Tryz.prog 32 #[.pointer none, .agg #[.string (mk e.1), .int .i64 e.2]] w fun x w' => RsE [e] _ w x w'
    generalize mk e.1 = X at *
    generalize e.2 = xx at *
    go_enter Tryz.func32, Tryz.ntmps32
    go_wp2_with fail
    refine H1.out.mono ?_
    rintro z w1 ⟨q1, t1, rfl, B1⟩
    go_wp2_with fail
    go_ret
    refine ⟨_, t1, rfl, B1.out.1, B1.out.2.list, B1.out.2.tr, B1.out.2.nd, fun k hk => Or.inr (Nat.le_trans HB.out.size (B1.out.2.low k hk)), Mo.of_below (Base.bel HB.out B1.out.2.bel (Nat.le_refl _))⟩
  | .node b l x r, e, w, ht, nd, hs, he, hn => by
    obtain ⟨sl, sr, sx, _, _⟩ := srt_parts (L := l.list) (R := r.list) (x := x) hs
    have hlen : l.list.length + 1 + r.list.length < big := by have e1 : (T.node b l x r).list.length = l.list.length + 1 + r.list.length := (by show (l.list ++ x :: r.list).length = _; simp; omega)
                                                              omega
    have nda := List.nodup_append.1 (List.nodup_cons.1 nd).2
    have hel : e ∉ l.list := fun h => he (List.mem_append.2 (Or.inl h))
    have her : e ∉ r.list := fun h => he (List.mem_append.2 (Or.inr (List.mem_cons_of_mem _ h)))
    have hex : e ≠ x := fun h => he (by rw [h]; exact List.mem_append.2 (Or.inr List.mem_cons_self))
    have IL : Hid (∀ W, Below w.heap.size w W → Calls Tryz.prog 32 #[l.ptr, eV e] W fun z w' => RsE (put e l.list) (fun k => k ∈ l.blks) W z w') := hid_of fun W hW => with_call l e W (ht.2.1.below hW) nda.1 sl hel (by unfold big at *; omega)
    have IR : Hid (∀ W, Below w.heap.size w W → Calls Tryz.prog 32 #[r.ptr, eV e] W fun z w' => RsE (put e r.list) (fun k => k ∈ r.blks) W z w') := hid_of fun W hW => with_call r e W (ht.2.2.below hW) nda.2.1 sr her (by unfold big at *; omega)
    have HSL : Hid (∀ W w4 t q, Below w.heap.size w W → t.addr = q ∧ Rs (put e l.list) (fun k => k ∈ l.blks) W t w4 → ltE e x → Calls Tryz.prog 54 #[.pointer (some ⟨b, 0, none⟩)] (w4.setCell ⟨b, 3, none⟩ (.pointer q)) fun z w' => RsE (put e (T.node b l x r).list) (fun k => k ∈ (T.node b l x r).blks) w z w') := hid_of fun W w4 t q hW hR hlt => by
      have h1 := sd_call (side_left ht nd hW hR.2) (by rw [hR.2.list, put_len]; unfold big at *; omega)
      rw [hR.2.list, ← put_left (L := l.list) (R := r.list) hs hlt] at h1
      have h2 : t.ptr = .pointer q := by unfold T.ptr; rw [hR.1]
      rw [h2] at h1
      exact h1
    have HSR : Hid (∀ W w4 t q, Below w.heap.size w W → t.addr = q ∧ Rs (put e r.list) (fun k => k ∈ r.blks) W t w4 → ltE x e → Calls Tryz.prog 54 #[.pointer (some ⟨b, 0, none⟩)] (w4.setCell ⟨b, 4, none⟩ (.pointer q)) fun z w' => RsE (put e (T.node b l x r).list) (fun k => k ∈ (T.node b l x r).blks) w z w') := hid_of fun W w4 t q hW hR hlt => by
      have h1 := sd_call (side_right ht nd hW hR.2) (by rw [hR.2.list, put_len]; unfold big at *; omega)
      rw [hR.2.list, ← put_right (L := l.list) (R := r.list) hs hlt] at h1
      have h2 : t.ptr = .pointer q := by unfold T.ptr; rw [hR.1]
      rw [h2] at h1
      exact h1
    have HNC : Hid (∀ W, Below w.heap.size w W → W.cell? ⟨b, 0, none⟩ = some (.string (mk x.1)) ∧ W.cell? ⟨b, 1, none⟩ = some (.int .i64 x.2) ∧ W.cell? ⟨b, 2, none⟩ = some (.int .i64 ((l.list.length + 1 + r.list.length : Nat) : Int)) ∧ W.cell? ⟨b, 3, none⟩ = some l.ptr ∧ W.cell? ⟨b, 4, none⟩ = some r.ptr) := hid_of fun W hW => node_c ((hW.block b (lt_of ht.1)).trans ht.1)
    have HC := hid_of (compare_b e x)
    have HLT := hid_of (cmpE_lt e x)
    have HBX : Hid (b < w.heap.size) := hid_of (lt_of ht.1)
    have HF0 : ∀ W w4 (S : Nat → Prop), Below w.heap.size w W → Mo S W w4 → ¬ S b → w4.heap[b]? = some (nB x ((l.list.length + 1 + r.list.length : Nat) : Int) l.ptr r.ptr) := fun W w4 S hW hm hs => (hm.block b (Nat.lt_of_lt_of_le (lt_of ht.1) hW.size) hs).trans ((hW.block b (lt_of ht.1)).trans ht.1)
    have HFZ3 : Hid (∀ W w4 (S : Nat → Prop), Below w.heap.size w W → Mo S W w4 → ¬ S b → w4.cell? ⟨b, 3, none⟩ = some l.ptr ∧ w4.frozen? ⟨b, 3, none⟩ = false) := hid_of fun W w4 S hW hm hs => ⟨Lib.cell_of_heap (HF0 W w4 S hW hm hs) 3, Lib.frozen_of_heap (HF0 W w4 S hW hm hs) 3⟩
    have HFZ4 : Hid (∀ W w4 (S : Nat → Prop), Below w.heap.size w W → Mo S W w4 → ¬ S b → w4.cell? ⟨b, 4, none⟩ = some r.ptr ∧ w4.frozen? ⟨b, 4, none⟩ = false) := hid_of fun W w4 S hW hm hs => ⟨Lib.cell_of_heap (HF0 W w4 S hW hm hs) 4, Lib.frozen_of_heap (HF0 W w4 S hW hm hs) 4⟩
    clear HF0
    have HNB : Hid (b ∉ l.blks ∧ b ∉ r.blks) := hid_of ⟨fun h => (List.nodup_cons.1 nd).1 (List.mem_append.2 (Or.inl h)), fun h => (List.nodup_cons.1 nd).1 (List.mem_append.2 (Or.inr h))⟩
    have HLR : Hid ((∀ k ∈ l.blks, k ≠ w.heap.size) ∧ (∀ k ∈ r.blks, k ≠ w.heap.size)) := hid_of ⟨fun k hk e => by have := (ht.2.1.lt k hk).1; omega, fun k hk e => by have := (ht.2.2.lt k hk).1; omega⟩
    obtain ⟨W0, hW0⟩ : ∃ W0, W0 = w.alloc (.cells #[.string (mk e.1), .int .i64 e.2] 35) := ⟨_, rfl⟩
    have b0 : Below w.heap.size w W0 := by rw [hW0]; exact bnew w _
    have HEC : Hid (∀ W, Below W0.heap.size W0 W → W.cell? ⟨w.heap.size, 0, none⟩ = some (.string (mk e.1)) ∧ W.cell? ⟨w.heap.size, 1, none⟩ = some (.int .i64 e.2)) := hid_of fun W hW => ⟨cell_on hW (by rw [hW0]; simp), cell_on hW (by rw [hW0]; simp)⟩
    have HB0 := hid_of b0
    have HW0 := hid_of hW0
    obtain ⟨n0, n1, n2, n3, n4⟩ := HNC.out W0 b0
    obtain ⟨p0, p1⟩ := HEC.out W0 (Below.refl _ _)
    have hor : ltE e x ∨ ltE x e := by rcases ltE_tot e x with q | q | q; exact Or.inl q; exact absurd q hex; exact Or.inr q
    clear hW0 b0 ht nd hs he hn sl sr sx nda hel her hex hlen
    unfold T.ptr eV at *
    generalize l.addr = LA at *
    generalize r.addr = RA at *
    generalize mk x.1 = X at *
    generalize x.2 = xx at *
    generalize mk e.1 = Y at *
    generalize e.2 = yy at *
    generalize cmpE e x = CC at *
    show Calls Tryz.prog 32 #[.pointer (some ⟨b, 0, none⟩), .agg #[.string Y, .int .i64 yy]] w _
    go_enter Tryz.func32, Tryz.ntmps32
    go_wp2_with fail
    rw [← HW0.out]
    go_region_held3 (fun V => V.cell? ⟨w.heap.size, 0, none⟩ = some (.string Y) ∧ V.cell? ⟨w.heap.size, 1, none⟩ = some (.int .i64 yy) ∧ V.cell? ⟨b, 0, none⟩ = some (.string X) ∧ V.cell? ⟨b, 1, none⟩ = some (.int .i64 xx)) (first | exact ⟨p0, p1, n0, n1⟩ | exact ⟨q0, q1, m0, m1⟩) (first
      | (go_at_call 19; refine (HC.out _).mono ?_; rintro z w1 hz1; obtain ⟨rfl, bb1⟩ := hz1; have HB1 : Hid (Below W0.heap.size W0 w1) := hid_of (((Below.refl _ W0).drew).trans bb1); obtain ⟨q0, q1⟩ := HEC.out w1 HB1.out; obtain ⟨m0, m1, m2, m3, m4⟩ := HNC.out w1 (Base.bel HB0.out HB1.out (Nat.le_refl _)); clear bb1))
    have HB2 : Hid (Below w.heap.size w w1) := hid_of (Base.bel HB0.out HB1.out (Nat.le_refl _))
    have HEK : Hid (∀ (w4 : World) (S : Nat → Prop) v (i : Nat), Mo S w1.drew w4 → (∀ k, S k → k ≠ w.heap.size) → (w4.cell? ⟨w.heap.size, 0, none⟩ = some (.string Y) ∧ w4.cell? ⟨w.heap.size, 1, none⟩ = some (.int .i64 yy)) ∧ ((w4.setCell ⟨b, i, none⟩ v).cell? ⟨w.heap.size, 0, none⟩ = some (.string Y) ∧ (w4.setCell ⟨b, i, none⟩ v).cell? ⟨w.heap.size, 1, none⟩ = some (.int .i64 yy))) := hid_of fun w4 S v i hm hs => by
      have hn : ¬ S w.heap.size := fun h => hs _ h rfl
      have h1 := hm.cell (a := ⟨w.heap.size, 0, none⟩) (v := .string Y) q0 hn
      have h2 := hm.cell (a := ⟨w.heap.size, 1, none⟩) (v := .int .i64 yy) q1 hn
      have hb : (⟨w.heap.size, 0, none⟩ : Addr).block ≠ b := by have := HBX.out; show w.heap.size ≠ b; omega
      refine ⟨⟨h1, h2⟩, ?_, ?_⟩
      · unfold World.cell? at h1 ⊢
        rw [set_ne hb]; exact h1
      · unfold World.cell? at h2 ⊢
        rw [set_ne hb]; exact h2
    have HLW : Hid ((∀ k ∈ l.blks, k ≠ w.heap.size) ∧ (∀ k ∈ r.blks, k ≠ w.heap.size)) := HLR
    clear HEC HNC HC
    rcases hor with hlt | hgt
    · have hcc : CC < 0 := HLT.out.2 hlt
      have H4 := hid_of (IL.out w1.drew (HB2.out.trans (Below.refl _ w1).drew))
      go_wp2_with fail
      refine Last.start (fun V => V.cell? ⟨w.heap.size, 0, none⟩ = some (.string Y) ∧ V.cell? ⟨w.heap.size, 1, none⟩ = some (.int .i64 yy) ∧ V.cell? ⟨b, 3, none⟩ = some (.pointer LA)) 9 (by kernel_rfl) ?_
      have hs0 : (fun V => V.cell? ⟨w.heap.size, 0, none⟩ = some (.string Y) ∧ V.cell? ⟨w.heap.size, 1, none⟩ = some (.int .i64 yy) ∧ V.cell? ⟨b, 3, none⟩ = some (.pointer LA)) w1.drew := ⟨q0, q1, m3⟩
      refine Last.take2 10 (i := 0) (v := .pointer (some ⟨b, 0, none⟩)) rfl (by kernel_rfl) (by kernel_rfl) (by kernel_rfl) (by kernel_rfl) (by kernel_rfl) (fun _ _ _ h => h) (Or.inl ⟨by rfl, ?_⟩) (by assumption) ?_
      · intro W hSW
        obtain ⟨s0, s1, s2⟩ := hSW
        go_simp
      simp only [Act.put, List.setIfInBounds_toArray, List.set_cons_zero, List.set_cons_succ]
      refine Last.take2 10 (i := 1) (v := .pointer (some ⟨b, 0, none⟩)) rfl (by kernel_rfl) (by kernel_rfl) (by kernel_rfl) (by kernel_rfl) (by kernel_rfl) (fun _ _ _ h => h) (Or.inl ⟨by rfl, ?_⟩) (by assumption) ?_
      · intro W hSW
        obtain ⟨s0, s1, s2⟩ := hSW
        go_simp
      simp only [Act.put, List.setIfInBounds_toArray, List.set_cons_zero, List.set_cons_succ]
      refine Last.take2 10 (i := 2) (v := .pointer (some ⟨b, 0, none⟩)) rfl (by kernel_rfl) (by kernel_rfl) (by kernel_rfl) (by kernel_rfl) (by kernel_rfl) (fun _ _ _ h => h) (Or.inl ⟨by rfl, ?_⟩) (by assumption) ?_
      · intro W hSW
        obtain ⟨s0, s1, s2⟩ := hSW
        go_simp
      simp only [Act.put, List.setIfInBounds_toArray, List.set_cons_zero, List.set_cons_succ]
      refine Last.take2 10 (i := 3) (v := .pointer (some ⟨b, 3, none⟩)) rfl (by kernel_rfl) (by kernel_rfl) (by kernel_rfl) (by kernel_rfl) (by kernel_rfl) (fun _ _ _ h => h) (Or.inl ⟨by rfl, ?_⟩) (by assumption) ?_
      · intro W hSW
        obtain ⟨s0, s1, s2⟩ := hSW
        go_simp
      simp only [Act.put, List.setIfInBounds_toArray, List.set_cons_zero, List.set_cons_succ]
      refine Last.take2 10 (i := 4) (v := .pointer LA) rfl (by kernel_rfl) (by kernel_rfl) (by kernel_rfl) (by kernel_rfl) (by kernel_rfl) (fun _ _ _ h => h) (Or.inl ⟨by rfl, ?_⟩) (by assumption) ?_
      · intro W hSW
        obtain ⟨s0, s1, s2⟩ := hSW
        go_simp
      simp only [Act.put, List.setIfInBounds_toArray, List.set_cons_zero, List.set_cons_succ]
      refine Last.take2 10 (i := 5) (v := .agg #[.string Y, .int .i64 yy]) rfl (by kernel_rfl) (by kernel_rfl) (by kernel_rfl) (by kernel_rfl) (by kernel_rfl) (fun _ _ _ h => h) (Or.inl ⟨by rfl, ?_⟩) (by assumption) ?_
      · intro W hSW
        obtain ⟨s0, s1, s2⟩ := hSW
        go_simp
      simp only [Act.put, List.setIfInBounds_toArray, List.set_cons_zero, List.set_cons_succ]
      refine Last.one (i := 6) rfl (by kernel_rfl) ?_
      intro K' hK0
      have hK := hid_of hK0
      clear hK0
      go_simp
      refine H4.out.mono ?_
      rintro z w4 ⟨q4, t4, rfl, R4⟩
      have HE4 := HEK.out w4 _ (.pointer q4) 3 R4.out.2.mo HLW.out.1
      obtain ⟨k3, z3⟩ := HFZ3.out w1.drew w4 _ (HB2.out.trans (Below.refl _ w1).drew) R4.out.2.mo HNB.out.1
      have hs4 : (fun V => V.cell? ⟨w.heap.size, 0, none⟩ = some (.string Y) ∧ V.cell? ⟨w.heap.size, 1, none⟩ = some (.int .i64 yy) ∧ V.cell? ⟨b, 3, none⟩ = some (.pointer LA)) w4 := ⟨HE4.1.1, HE4.1.2, k3⟩
      refine hK.out _ _ (fun _ => hs4) ?_
      clear hK K'
      try simp only [Act.put, List.setIfInBounds_toArray, List.set_cons_zero, List.set_cons_succ]
      refine Last.one (i := 7) rfl (by kernel_rfl) ?_
      intro K' hK0
      have hK := hid_of hK0
      clear hK0
      go_simp
      refine hK.out _ _ (fun _ => hs4) ?_
      clear hK K'
      try simp only [Act.put, List.setIfInBounds_toArray, List.set_cons_zero, List.set_cons_succ]
      refine Last.one (i := 8) rfl (by kernel_rfl) ?_
      intro K' hK0
      have hK := hid_of hK0
      clear hK0
      go_simp
      refine hK.out _ _ (fun _ => hs4) ?_
      clear hK K'
      try simp only [Act.put, List.setIfInBounds_toArray, List.set_cons_zero, List.set_cons_succ]
      refine Last.one (i := 9) rfl (by kernel_rfl) ?_
      intro K' hK0
      have hK := hid_of hK0
      clear hK0
      go_simp
      refine hK.out _ _ (fun h => absurd rfl h) ?_
      clear hK K'
      refine Last.fin (by kernel_rfl) ?_ _
      have H5 := hid_of (HSL.out w1.drew w4 t4 q4 (HB2.out.trans (Below.refl _ w1).drew) R4.out hlt)
      go_wp2_with fail
      refine H5.out.mono ?_
      rintro z w5 hz5
      have HZ := hid_of hz5
      obtain ⟨q5, t5, rfl, R5⟩ := hz5
      go_wp2_with fail
      go_ret
      exact HZ.out
    · have hcc : ¬ CC < 0 := fun h => ltE_asy hgt (HLT.out.1 h)
      have H4 := hid_of (IR.out w1.drew (HB2.out.trans (Below.refl _ w1).drew))
      go_wp2_with fail
      refine Last.start (fun V => V.cell? ⟨w.heap.size, 0, none⟩ = some (.string Y) ∧ V.cell? ⟨w.heap.size, 1, none⟩ = some (.int .i64 yy) ∧ V.cell? ⟨b, 4, none⟩ = some (.pointer RA)) 9 (by kernel_rfl) ?_
      have hs0 : (fun V => V.cell? ⟨w.heap.size, 0, none⟩ = some (.string Y) ∧ V.cell? ⟨w.heap.size, 1, none⟩ = some (.int .i64 yy) ∧ V.cell? ⟨b, 4, none⟩ = some (.pointer RA)) w1.drew := ⟨q0, q1, m4⟩
      refine Last.take2 10 (i := 0) (v := .pointer (some ⟨b, 0, none⟩)) rfl (by kernel_rfl) (by kernel_rfl) (by kernel_rfl) (by kernel_rfl) (by kernel_rfl) (fun _ _ _ h => h) (Or.inl ⟨by rfl, ?_⟩) (by assumption) ?_
      · intro W hSW
        obtain ⟨s0, s1, s2⟩ := hSW
        go_simp
      simp only [Act.put, List.setIfInBounds_toArray, List.set_cons_zero, List.set_cons_succ]
      refine Last.take2 10 (i := 1) (v := .pointer (some ⟨b, 0, none⟩)) rfl (by kernel_rfl) (by kernel_rfl) (by kernel_rfl) (by kernel_rfl) (by kernel_rfl) (fun _ _ _ h => h) (Or.inl ⟨by rfl, ?_⟩) (by assumption) ?_
      · intro W hSW
        obtain ⟨s0, s1, s2⟩ := hSW
        go_simp
      simp only [Act.put, List.setIfInBounds_toArray, List.set_cons_zero, List.set_cons_succ]
      refine Last.take2 10 (i := 2) (v := .pointer (some ⟨b, 0, none⟩)) rfl (by kernel_rfl) (by kernel_rfl) (by kernel_rfl) (by kernel_rfl) (by kernel_rfl) (fun _ _ _ h => h) (Or.inl ⟨by rfl, ?_⟩) (by assumption) ?_
      · intro W hSW
        obtain ⟨s0, s1, s2⟩ := hSW
        go_simp
      simp only [Act.put, List.setIfInBounds_toArray, List.set_cons_zero, List.set_cons_succ]
      refine Last.take2 10 (i := 3) (v := .pointer (some ⟨b, 4, none⟩)) rfl (by kernel_rfl) (by kernel_rfl) (by kernel_rfl) (by kernel_rfl) (by kernel_rfl) (fun _ _ _ h => h) (Or.inl ⟨by rfl, ?_⟩) (by assumption) ?_
      · intro W hSW
        obtain ⟨s0, s1, s2⟩ := hSW
        go_simp
      simp only [Act.put, List.setIfInBounds_toArray, List.set_cons_zero, List.set_cons_succ]
      refine Last.take2 10 (i := 4) (v := .pointer RA) rfl (by kernel_rfl) (by kernel_rfl) (by kernel_rfl) (by kernel_rfl) (by kernel_rfl) (fun _ _ _ h => h) (Or.inl ⟨by rfl, ?_⟩) (by assumption) ?_
      · intro W hSW
        obtain ⟨s0, s1, s2⟩ := hSW
        go_simp
      simp only [Act.put, List.setIfInBounds_toArray, List.set_cons_zero, List.set_cons_succ]
      refine Last.take2 10 (i := 5) (v := .agg #[.string Y, .int .i64 yy]) rfl (by kernel_rfl) (by kernel_rfl) (by kernel_rfl) (by kernel_rfl) (by kernel_rfl) (fun _ _ _ h => h) (Or.inl ⟨by rfl, ?_⟩) (by assumption) ?_
      · intro W hSW
        obtain ⟨s0, s1, s2⟩ := hSW
        go_simp
      simp only [Act.put, List.setIfInBounds_toArray, List.set_cons_zero, List.set_cons_succ]
      refine Last.one (i := 6) rfl (by kernel_rfl) ?_
      intro K' hK0
      have hK := hid_of hK0
      clear hK0
      go_simp
      refine H4.out.mono ?_
      rintro z w4 ⟨q4, t4, rfl, R4⟩
      have HE4 := HEK.out w4 _ (.pointer q4) 4 R4.out.2.mo HLW.out.2
      obtain ⟨k3, z3⟩ := HFZ4.out w1.drew w4 _ (HB2.out.trans (Below.refl _ w1).drew) R4.out.2.mo HNB.out.2
      have hs4 : (fun V => V.cell? ⟨w.heap.size, 0, none⟩ = some (.string Y) ∧ V.cell? ⟨w.heap.size, 1, none⟩ = some (.int .i64 yy) ∧ V.cell? ⟨b, 4, none⟩ = some (.pointer RA)) w4 := ⟨HE4.1.1, HE4.1.2, k3⟩
      refine hK.out _ _ (fun _ => hs4) ?_
      clear hK K'
      try simp only [Act.put, List.setIfInBounds_toArray, List.set_cons_zero, List.set_cons_succ]
      refine Last.one (i := 7) rfl (by kernel_rfl) ?_
      intro K' hK0
      have hK := hid_of hK0
      clear hK0
      go_simp
      refine hK.out _ _ (fun _ => hs4) ?_
      clear hK K'
      try simp only [Act.put, List.setIfInBounds_toArray, List.set_cons_zero, List.set_cons_succ]
      refine Last.one (i := 8) rfl (by kernel_rfl) ?_
      intro K' hK0
      have hK := hid_of hK0
      clear hK0
      go_simp
      refine hK.out _ _ (fun _ => hs4) ?_
      clear hK K'
      try simp only [Act.put, List.setIfInBounds_toArray, List.set_cons_zero, List.set_cons_succ]
      refine Last.one (i := 9) rfl (by kernel_rfl) ?_
      intro K' hK0
      have hK := hid_of hK0
      clear hK0
      go_simp
      refine hK.out _ _ (fun h => absurd rfl h) ?_
      clear hK K'
      refine Last.fin (by kernel_rfl) ?_ _
      have H5 := hid_of (HSR.out w1.drew w4 t4 q4 (HB2.out.trans (Below.refl _ w1).drew) R4.out hgt)
      go_wp2_with fail
      refine H5.out.mono ?_
      rintro z w5 hz5
      have HZ := hid_of hz5
      obtain ⟨q5, t5, rfl, R5⟩ := hz5
      go_wp2_with fail
      go_ret
      exact HZ.out
end Go.Proofs.YtighoelipihifabGreatDoor.With
