/- A tree with an entry less; two trees joined. -/
import Derived.Test.YtighoelipihifabGreatDoorWith
import Derived.Test.YtighoelipihifabGreatDoorNeq
namespace Go.Proofs.YtighoelipihifabGreatDoor.Without
open Go.RowKit Go.Maps Go.Sort
open Go.Proofs.YtighoelipihifabGreatDoor.MapMath
open Go.Proofs.YtighoelipihifabGreatDoor.RankMath
open Go.Proofs.YtighoelipihifabGreatDoor.RankMath2
open Go.Proofs.YtighoelipihifabGreatDoor.RankMath3
open Go.Proofs.YtighoelipihifabGreatDoor.Base
open Go.Proofs.YtighoelipihifabGreatDoor.Cmp
open Go.Proofs.YtighoelipihifabGreatDoor.Neq
open Go.Proofs.YtighoelipihifabGreatDoor.Tree
open Go.Proofs.YtighoelipihifabGreatDoor.Piece
open Go.Proofs.YtighoelipihifabGreatDoor.Settle
open Go.Proofs.YtighoelipihifabGreatDoor.First
open Go.Proofs.YtighoelipihifabGreatDoor.With
set_option linter.unusedVariables false
set_option linter.unusedSimpArgs false

theorem join_side {l r t : T} {x : Ent} {w W w3 : World} {L : EL} (hl : Tr w l) (hr : Tr w r) (nd : (l.blks ++ r.blks).Nodup) (hW : Below w.heap.size w W) (hR : Rs L (fun k => k ∈ r.blks) W t w3) :
    Sd w3.heap.size l x t (fun k => k ∈ l.blks ++ r.blks) w (w3.alloc (nB x 0 l.ptr t.ptr)) := by
  have na := List.nodup_append.1 nd
  have hs : w.heap.size ≤ w3.heap.size := Nat.le_trans hW.size hR.mo.size
  have hl3 : Tr w3 l := (hl.below hW).mo hR.mo (fun k hk hr => na.2.2 k hk k hr rfl)
  have bA := bnew w3 (nB x 0 l.ptr t.ptr)
  have hlt : ∀ k ∈ l.blks, k ∉ t.blks := fun k hk ht => by
    rcases hR.own k ht with q | q
    · exact na.2.2 k hk k q rfl
    · have := (hl.lt k hk).1; have := hW.size; omega
  refine ⟨⟨0, heap_alloc_new w3 _⟩, hl3.below bA, hR.tr.below bA, List.nodup_cons.2 ⟨fun h => ?_, List.nodup_append.2 ⟨na.1, hR.nd, fun a ha c hc e => hlt a ha (e ▸ hc)⟩⟩, ?_⟩
  · rcases List.mem_append.1 h with h | h
    · exact Nat.lt_irrefl _ (hl3.lt _ h).1
    · exact Nat.lt_irrefl _ (hR.tr.lt _ h).1
  intro LL t2 w6 h
  have m1 : Mo (fun k => k ∈ l.blks ++ r.blks) w W := Mo.of_below hW
  have m2 := Mo.trans m1 hR.mo (fun i _ hi => List.mem_append.2 (Or.inr hi))
  have m3 := m2.then_below bA
  have key : ∀ i, i < w.heap.size → i ∈ w3.heap.size :: (l.blks ++ t.blks) → i ∈ l.blks ++ r.blks := fun i hi hm => by
    rcases List.mem_cons.1 hm with rfl | hm
    · omega
    · rcases List.mem_append.1 hm with hm | hm
      · exact List.mem_append.2 (Or.inl hm)
      · rcases hR.own i hm with q | q
        · exact List.mem_append.2 (Or.inr q)
        · have := hW.size; omega
  refine ⟨h.list, h.tr, h.nd, fun k hk => ?_, Mo.trans m3 h.mo key⟩
  rcases h.own k hk with q | q
  · by_cases hlt : k < w.heap.size
    · exact Or.inl (key k hlt q)
    · exact Or.inr (by omega)
  · exact Or.inr (Nat.le_trans m3.size q)
set_option maxHeartbeats 8000000 in
set_option maxRecDepth 100000 in
theorem joined_call (l r : T) (w : World) (hl : Tr w l) (hr : Tr w r) (nd : (l.blks ++ r.blks).Nodup) (hs : Srt r.list) (hn : l.list.length + r.list.length ≤ big)
    (HW : ∀ W x, Below w.heap.size w W → Calls Tryz.prog 34 #[r.ptr, eV x] W fun z w' => RsE (rmv x r.list) (fun k => k ∈ r.blks) W z w') :
    Calls Tryz.prog 55 #[l.ptr, r.ptr] w fun z w' => RsE (l.list ++ r.list) (fun k => k ∈ l.blks ++ r.blks) w z w' := by
  cases l with
  | nil =>
    have HE : Hid (RsE ((T.nil).list ++ r.list) (fun k => k ∈ (T.nil).blks ++ r.blks) w (.returned (.pointer r.addr)) w) := hid_of ⟨_, r, rfl, rfl, rfl, hr, nd, fun b hb => Or.inl hb, Mo.refl _ _⟩
    show Calls Tryz.prog 55 #[.pointer none, r.ptr] w _
    unfold T.ptr
    generalize r.addr = RA at *
    clear hl hr nd hs hn HW
    go_enter Tryz.func55, Tryz.ntmps55
    go_wp2
    go_ret
    exact HE.out
  | node lb ll lx lr =>
    cases r with
    | nil =>
      have HE : Hid (RsE ((T.node lb ll lx lr).list ++ (T.nil).list) (fun k => k ∈ (T.node lb ll lx lr).blks ++ (T.nil).blks) w (.returned (.pointer (some ⟨lb, 0, none⟩))) w) := hid_of ⟨_, .node lb ll lx lr, rfl, rfl, (List.append_nil _).symm, hl, (by have := nd; rw [show (T.nil).blks = [] from rfl, List.append_nil] at this; exact this), fun b hb => Or.inl (List.mem_append.2 (Or.inl hb)), Mo.refl _ _⟩
      show Calls Tryz.prog 55 #[.pointer (some ⟨lb, 0, none⟩), .pointer none] w _
      clear hl hr nd hs hn HW
      go_enter Tryz.func55, Tryz.ntmps55
      go_wp2
      go_ret
      exact HE.out
    | node rb rl rx rr =>
      obtain ⟨x, R, hxR⟩ : ∃ x R, (T.node rb rl rx rr).list = x :: R := by
        cases h : (T.node rb rl rx rr).list with
        | nil => exact absurd h (by show ¬ rl.list ++ rx :: rr.list = []; simp)
        | cons x R => exact ⟨x, R, rfl⟩
      have H1 := hid_of (first_call (.node rb rl rx rr) x R w hr hxR)
      have hrm : rmv x (T.node rb rl rx rr).list = R := by
        rw [hxR]
        have := rmv_mid (L := []) (R := R) (e := x) (by rw [List.nil_append, ← hxR]; exact hs)
        rw [List.nil_append] at this
        exact this
      generalize hL : T.node lb ll lx lr = l at *
      generalize hRr : T.node rb rl rx rr = r at *
      have hlp : l.ptr = .pointer (some ⟨lb, 0, none⟩) := by rw [← hL]; rfl
      have hrp : r.ptr = .pointer (some ⟨rb, 0, none⟩) := by rw [← hRr]; rfl
      have H2 : Hid (∀ W, Below w.heap.size w W → Calls Tryz.prog 34 #[.pointer (some ⟨rb, 0, none⟩), eV x] W fun z w' => RsE R (fun k => k ∈ r.blks) W z w') := hid_of fun W hW => by
        have := HW W x hW
        rw [hrm, hrp] at this
        exact this
      have H3 : Hid (∀ W w3 t q, Below w.heap.size w W → t.addr = q ∧ Rs R (fun k => k ∈ r.blks) W t w3 → Calls Tryz.prog 54 #[.pointer (some ⟨w3.heap.size, 0, none⟩)] (w3.alloc (.cells #[.string (mk x.1), .int .i64 x.2, .int .i64 0, .pointer (some ⟨lb, 0, none⟩), .pointer q] 73)) fun z w' => RsE (l.list ++ r.list) (fun k => k ∈ l.blks ++ r.blks) w z w') := hid_of fun W w3 t q hW hR => by
        have h1 := sd_call (join_side (x := x) hl hr nd hW hR.2) (by rw [hR.2.list]; rw [hxR] at hn; rw [List.length_cons] at hn; unfold big at *; omega)
        rw [hR.2.list, ← hxR, hlp] at h1
        have h2 : t.ptr = .pointer q := by unfold T.ptr; rw [hR.1]
        rw [h2] at h1
        exact h1
      have HRN : Hid (∀ k ∈ r.blks, k < w.heap.size) := hid_of fun k hk => (hr.lt k hk).1
      rw [hlp, hrp]
      rw [hrp] at H1
      clear hL hRr hl hr nd hs hn HW hxR hrm hlp hrp
      unfold eV at *
      generalize mk x.1 = X at *
      generalize x.2 = xx at *
      go_enter Tryz.func55, Tryz.ntmps55
      go_wp2_with fail
      refine H1.out.mono ?_
      rintro e w1 hw1
      obtain ⟨rfl, b1⟩ := hw1
      have HB1 := hid_of b1
      clear b1 H1
      obtain ⟨V, hV⟩ : ∃ V, V = w1.alloc (.cells #[.string X, .int .i64 xx] 35) := ⟨_, rfl⟩
      have bV : Below w1.heap.size w1 V := by rw [hV]; exact bnew w1 _
      have p0 : V.cell? ⟨w1.heap.size, 0, none⟩ = some (.string X) := by rw [hV]; simp
      have p1 : V.cell? ⟨w1.heap.size, 1, none⟩ = some (.int .i64 xx) := by rw [hV]; simp
      have HB2 : Hid (Below w.heap.size w V) := hid_of (Base.bel HB1.out bV (Nat.le_refl _))
      have HV := hid_of hV
      have HK3 : Hid (∀ (w3 : World), Mo (fun k => k ∈ r.blks) V.drew w3 → w3.cell? ⟨w1.heap.size, 0, none⟩ = some (.string X) ∧ w3.cell? ⟨w1.heap.size, 1, none⟩ = some (.int .i64 xx)) := hid_of fun w3 hm => by
        have hnn : ¬ w1.heap.size ∈ r.blks := fun h => by have := HRN.out _ h; have := HB1.out.size; omega
        exact ⟨hm.cell (a := ⟨w1.heap.size, 0, none⟩) p0 hnn, hm.cell (a := ⟨w1.heap.size, 1, none⟩) p1 hnn⟩
      have HK4 : Hid (∀ (w3 : World) (ob : Obj), (w3.cell? ⟨w1.heap.size, 0, none⟩ = some (.string X) ∧ w3.cell? ⟨w1.heap.size, 1, none⟩ = some (.int .i64 xx)) → ((w3.alloc ob).cell? ⟨w1.heap.size, 0, none⟩ = some (.string X) ∧ (w3.alloc ob).cell? ⟨w1.heap.size, 1, none⟩ = some (.int .i64 xx))) := hid_of fun w3 ob h => ⟨cell_on (bnew w3 ob) h.1, cell_on (bnew w3 ob) h.2⟩
      have H2' := hid_of (H2.out V.drew (HB2.out.trans (Below.refl _ V).drew))
      clear hV bV H2
      go_wp2_with fail
      rw [← HV.out]
      go_region_held3 (fun W => W.cell? ⟨w1.heap.size, 0, none⟩ = some (.string X) ∧ W.cell? ⟨w1.heap.size, 1, none⟩ = some (.int .i64 xx)) (first | exact ⟨p0, p1⟩ | exact k3 | exact HK4.out _ _ k3) (first
        | (go_at_call 34; refine H2'.out.mono ?_; rintro z w3 ⟨q3, t3, rfl, R3⟩; have k3 := HK3.out w3 R3.out.2.mo))
      have H5 := hid_of (H3.out V.drew w3 t3 q3 (HB2.out.trans (Below.refl _ V).drew) R3.out)
      go_wp2_with fail
      refine H5.out.mono ?_
      rintro z w5 hz5
      have HZ := hid_of hz5
      obtain ⟨q5, t5, rfl, R5⟩ := hz5
      go_wp2_with fail
      go_ret
      exact HZ.out

theorem rs_up {b : Nat} {l r : T} {x : Ent} {w W : World} {L : EL} {z : Ending} {w' : World} (hW : Below w.heap.size w W) (h : RsE L (fun k => k ∈ l.blks ++ r.blks) W z w') : RsE L (fun k => k ∈ (T.node b l x r).blks) w z w' := by
  obtain ⟨q, t, h1, h2⟩ := h
  refine ⟨q, t, h1, h2.out.1, h2.out.2.list, h2.out.2.tr, h2.out.2.nd, fun k hk => ?_, Mo.trans (Mo.of_below (S := fun k => k ∈ (T.node b l x r).blks) hW) h2.out.2.mo (fun i _ hi => List.mem_cons_of_mem _ hi)⟩
  exact (h2.out.2.own k hk).imp (fun h => List.mem_cons_of_mem _ h) (fun h => Nat.le_trans hW.size h)
set_option maxHeartbeats 16000000 in
set_option maxRecDepth 100000 in
theorem without_call : ∀ (n : Nat) (t : T) (e : Ent) (w : World), t.list.length ≤ n → Tr w t → t.blks.Nodup → Srt t.list → t.list.length ≤ big → Calls Tryz.prog 34 #[t.ptr, eV e] w fun z w' => RsE (rmv e t.list) (fun k => k ∈ t.blks) w z w'
  | n, .nil, e, w, hn0, ht, nd, hs, hn => by
    have HE : Hid (RsE (rmv e (T.nil).list) (fun k => k ∈ (T.nil).blks) w (.returned (.pointer none)) (w.alloc (.cells #[.string (mk e.1), .int .i64 e.2] 35))) := hid_of ⟨_, .nil, rfl, rfl, rfl, trivial, List.nodup_nil, fun b hb => absurd hb List.not_mem_nil, Mo.of_below (bnew w _)⟩
    show Calls Tryz.prog 34 #[.pointer none, .agg #[.string (mk e.1), .int .i64 e.2]] w _
    clear hn0 ht nd hs hn
    generalize mk e.1 = X at *
    generalize e.2 = xx at *
    go_enter Tryz.func34, Tryz.ntmps34
    go_wp2
    go_ret
    exact HE.out
  | 0, .node b l x r, e, w, hn0, ht, nd, hs, hn => by
    have e1 : (T.node b l x r).list.length = l.list.length + 1 + r.list.length := by show (l.list ++ x :: r.list).length = _; simp; omega
    omega
  | n + 1, .node b l x r, e, w, hn0, ht, nd, hs, hn => by
    obtain ⟨sl, sr, sx, sxr, slr⟩ := srt_parts (L := l.list) (R := r.list) (x := x) hs
    have e1 : (T.node b l x r).list.length = l.list.length + 1 + r.list.length := by show (l.list ++ x :: r.list).length = _; simp; omega
    rw [e1] at hn hn0
    have nd2 := (List.nodup_cons.1 nd).2
    have nda := List.nodup_append.1 nd2
    have IL : Hid (∀ W, Below w.heap.size w W → Calls Tryz.prog 34 #[l.ptr, eV e] W fun z w' => RsE (rmv e l.list) (fun k => k ∈ l.blks) W z w') := hid_of fun W hW => without_call n l e W (by omega) (ht.2.1.below hW) nda.1 sl (by unfold big at *; omega)
    have IR : Hid (∀ W, Below w.heap.size w W → Calls Tryz.prog 34 #[r.ptr, eV e] W fun z w' => RsE (rmv e r.list) (fun k => k ∈ r.blks) W z w') := hid_of fun W hW => without_call n r e W (by omega) (ht.2.2.below hW) nda.2.1 sr (by unfold big at *; omega)
    have IJ : Hid (∀ W, Below w.heap.size w W → x = e → Calls Tryz.prog 55 #[l.ptr, r.ptr] W fun z w' => ∃ q, z = .returned (.pointer q) ∧ Hid (RsE (rmv e (T.node b l x r).list) (fun k => k ∈ (T.node b l x r).blks) w z w') ∧ Mo (fun k => k ∈ l.blks ++ r.blks) W w') := hid_of fun W hW hxe => by
      have h1 := joined_call l r W (ht.2.1.below hW) (ht.2.2.below hW) nd2 sr (by unfold big at *; omega) (fun W' y hW' => without_call n r y W' (by omega) (ht.2.2.below (Base.bel hW hW' (Nat.le_refl _))) nda.2.1 sr (by unfold big at *; omega))
      refine h1.mono fun z w' hz => ?_
      have h2 : rmv e (T.node b l x r).list = l.list ++ r.list := by rw [← hxe]; exact rmv_mid (L := l.list) (R := r.list) hs
      rw [h2]
      have h3 := rs_up (b := b) (x := x) hW hz
      obtain ⟨q, t, hz1, hz2⟩ := hz
      exact ⟨q, hz1, h3, hz2.out.2.mo⟩
    have HSL : Hid (∀ W w4 t q, Below w.heap.size w W → t.addr = q ∧ Rs (rmv e l.list) (fun k => k ∈ l.blks) W t w4 → ltE e x → Calls Tryz.prog 54 #[.pointer (some ⟨b, 0, none⟩)] (w4.setCell ⟨b, 3, none⟩ (.pointer q)) fun z w' => RsE (rmv e (T.node b l x r).list) (fun k => k ∈ (T.node b l x r).blks) w z w') := hid_of fun W w4 t q hW hR hlt => by
      have h1 := sd_call (side_left ht nd hW hR.2) (by rw [hR.2.list]; have : (rmv e l.list).length ≤ l.list.length := List.length_filter_le _ _; unfold big at *; omega)
      rw [hR.2.list, ← rmv_left (L := l.list) (R := r.list) hs hlt] at h1
      have h2 : t.ptr = .pointer q := by unfold T.ptr; rw [hR.1]
      rw [h2] at h1
      exact h1
    have HSR : Hid (∀ W w4 t q, Below w.heap.size w W → t.addr = q ∧ Rs (rmv e r.list) (fun k => k ∈ r.blks) W t w4 → ltE x e → Calls Tryz.prog 54 #[.pointer (some ⟨b, 0, none⟩)] (w4.setCell ⟨b, 4, none⟩ (.pointer q)) fun z w' => RsE (rmv e (T.node b l x r).list) (fun k => k ∈ (T.node b l x r).blks) w z w') := hid_of fun W w4 t q hW hR hlt => by
      have h1 := sd_call (side_right ht nd hW hR.2) (by rw [hR.2.list]; have : (rmv e r.list).length ≤ r.list.length := List.length_filter_le _ _; unfold big at *; omega)
      rw [hR.2.list, ← rmv_right (L := l.list) (R := r.list) hs hlt] at h1
      have h2 : t.ptr = .pointer q := by unfold T.ptr; rw [hR.1]
      rw [h2] at h1
      exact h1
    have HNC : Hid (∀ W, Below w.heap.size w W → W.cell? ⟨b, 0, none⟩ = some (.string (mk x.1)) ∧ W.cell? ⟨b, 1, none⟩ = some (.int .i64 x.2) ∧ W.cell? ⟨b, 2, none⟩ = some (.int .i64 ((l.list.length + 1 + r.list.length : Nat) : Int)) ∧ W.cell? ⟨b, 3, none⟩ = some l.ptr ∧ W.cell? ⟨b, 4, none⟩ = some r.ptr) := hid_of fun W hW => node_c ((hW.block b (lt_of ht.1)).trans ht.1)
    have HC := hid_of (compare_b e x)
    have HLT := hid_of (cmpE_lt e x)
    have HBX : Hid (b < w.heap.size) := hid_of (lt_of ht.1)
    have HF0 : ∀ W w4 (S : Nat → Prop), Below w.heap.size w W → Mo S W w4 → ¬ S b → w4.heap[b]? = some (nB x ((l.list.length + 1 + r.list.length : Nat) : Int) l.ptr r.ptr) := fun W w4 S hW hm hs => (hm.block b (Nat.lt_of_lt_of_le (lt_of ht.1) hW.size) hs).trans ((hW.block b (lt_of ht.1)).trans ht.1)
    have HFZ3 : Hid (∀ W w4 (S : Nat → Prop), Below w.heap.size w W → Mo S W w4 → ¬ S b → w4.cell? ⟨b, 3, none⟩ = some l.ptr ∧ w4.frozen? ⟨b, 3, none⟩ = false) := hid_of fun W w4 S hW hm hs => ⟨Lib.cell_of_heap (HF0 W w4 S hW hm hs) 3, Lib.frozen_of_heap (HF0 W w4 S hW hm hs) 3⟩
    have HFZ4 : Hid (∀ W w4 (S : Nat → Prop), Below w.heap.size w W → Mo S W w4 → ¬ S b → w4.cell? ⟨b, 4, none⟩ = some r.ptr ∧ w4.frozen? ⟨b, 4, none⟩ = false) := hid_of fun W w4 S hW hm hs => ⟨Lib.cell_of_heap (HF0 W w4 S hW hm hs) 4, Lib.frozen_of_heap (HF0 W w4 S hW hm hs) 4⟩
    have HF34 : Hid (∀ W w4, Below w.heap.size w W → Mo (fun k => k ∈ l.blks ++ r.blks) W w4 → w4.cell? ⟨b, 3, none⟩ = some l.ptr ∧ w4.cell? ⟨b, 4, none⟩ = some r.ptr) := hid_of fun W w4 hW hm => ⟨Lib.cell_of_heap (HF0 W w4 _ hW hm (List.nodup_cons.1 nd).1) 3, Lib.cell_of_heap (HF0 W w4 _ hW hm (List.nodup_cons.1 nd).1) 4⟩
    clear HF0
    have HNB : Hid (b ∉ l.blks ∧ b ∉ r.blks) := hid_of ⟨fun h => (List.nodup_cons.1 nd).1 (List.mem_append.2 (Or.inl h)), fun h => (List.nodup_cons.1 nd).1 (List.mem_append.2 (Or.inr h))⟩
    have HLW : Hid ((∀ k ∈ l.blks, k ≠ w.heap.size) ∧ (∀ k ∈ r.blks, k ≠ w.heap.size)) := hid_of ⟨fun k hk e => by have := (ht.2.1.lt k hk).1; omega, fun k hk e => by have := (ht.2.2.lt k hk).1; omega⟩
    obtain ⟨W0, hW0⟩ : ∃ W0, W0 = w.alloc (.cells #[.string (mk e.1), .int .i64 e.2] 35) := ⟨_, rfl⟩
    have b0 : Below w.heap.size w W0 := by rw [hW0]; exact bnew w _
    have HEC : Hid (∀ W, Below W0.heap.size W0 W → W.cell? ⟨w.heap.size, 0, none⟩ = some (.string (mk e.1)) ∧ W.cell? ⟨w.heap.size, 1, none⟩ = some (.int .i64 e.2)) := hid_of fun W hW => ⟨cell_on hW (by rw [hW0]; simp), cell_on hW (by rw [hW0]; simp)⟩
    have HB0 := hid_of b0
    have HW0 := hid_of hW0
    obtain ⟨n0, n1, n2, n3, n4⟩ := HNC.out W0 b0
    obtain ⟨p0, p1⟩ := HEC.out W0 (Below.refl _ _)
    have heq := eqlE x e
    obtain ⟨D, hD⟩ : ∃ D, D = decide (x = e) := ⟨_, rfl⟩
    rw [← hD] at heq
    have hor : D = false → ltE e x ∨ ltE x e := fun h => by
      rw [h] at hD
      have hne := of_decide_eq_false hD.symm
      rcases ltE_tot e x with q | q | q
      · exact Or.inl q
      · exact absurd q.symm hne
      · exact Or.inr q
    have hor2 : D = true → x = e := fun h => of_decide_eq_true (by rw [← hD]; exact h)
    have HO1 := hid_of hor
    have HO2 := hid_of hor2
    clear hW0 b0 ht nd hs hn sl sr sx nda hor hor2 hD sxr slr nd2 hn0 e1
    show Calls Tryz.prog 34 #[.pointer (some ⟨b, 0, none⟩), eV e] w _
    unfold T.ptr eV at *
    generalize l.addr = LA at *
    generalize r.addr = RA at *
    generalize mk x.1 = X at *
    generalize x.2 = xx at *
    generalize mk e.1 = Y at *
    generalize e.2 = yy at *
    generalize cmpE e x = CC at *
    go_enter Tryz.func34, Tryz.ntmps34
    go_wp2_with fail
    rw [← HW0.out]
    go_quiet (fail)
    obtain ⟨W1, hW1⟩ : ∃ W1, W1 = W0.drewN nq := ⟨_, rfl⟩
    have b1 : Below W0.heap.size W0 W1 := by rw [hW1]; exact bdrew (Below.refl _ _) nq
    have HBa : Hid (Below w.heap.size w W1) := hid_of (Base.bel HB0.out b1 (Nat.le_refl _))
    obtain ⟨a0, a1⟩ := HEC.out W1 b1
    obtain ⟨i0, i1, i2, i3, i4⟩ := HNC.out W1 HBa.out
    have Hb1 := hid_of b1
    have HW1 := hid_of hW1
    rw [← hW1]
    clear hW1 b1 p0 p1 n0 n1 n2 n3 n4 heq
    cases D with
    | true =>
      have hxe := HO2.out rfl
      have H4 := hid_of (IJ.out W1.drew (HBa.out.trans (Below.refl _ W1).drew) hxe)
      have H34 := hid_of (fun w4 hm => HF34.out W1.drew w4 (HBa.out.trans (Below.refl _ W1).drew) hm)
      go_wp2_with fail
      go_region_held3 (fun W => W.cell? ⟨b, 3, none⟩ = some (.pointer LA) ∧ W.cell? ⟨b, 4, none⟩ = some (.pointer RA)) (first | exact ⟨i3, i4⟩ | exact k4) (first
        | (go_at_call 55; refine H4.out.mono ?_; rintro z w4 ⟨q4, rfl, R4, M4⟩; have k4 := H34.out w4 M4))
      go_wp2_with fail
      go_ret
      exact R4.out
    | false =>
      have hor := HO1.out rfl
      go_wp2_with fail
      go_region_held3 (fun V => V.cell? ⟨w.heap.size, 0, none⟩ = some (.string Y) ∧ V.cell? ⟨w.heap.size, 1, none⟩ = some (.int .i64 yy) ∧ V.cell? ⟨b, 0, none⟩ = some (.string X) ∧ V.cell? ⟨b, 1, none⟩ = some (.int .i64 xx)) (first | exact ⟨a0, a1, i0, i1⟩ | exact ⟨q0, q1, m0, m1⟩) (first
        | (go_at_call 19; refine (HC.out _).mono ?_; rintro z w1 hz1; obtain ⟨rfl, bb1⟩ := hz1; have HB1 : Hid (Below W0.heap.size W0 w1) := hid_of (Base.bel Hb1.out (((Below.refl _ W1).drew).trans bb1) (Nat.le_refl _)); obtain ⟨q0, q1⟩ := HEC.out w1 HB1.out; obtain ⟨m0, m1, m2, m3, m4⟩ := HNC.out w1 (Base.bel HB0.out HB1.out (Nat.le_refl _)); clear bb1))
      have HB2 : Hid (Below w.heap.size w w1) := hid_of (Base.bel HB0.out HB1.out (Nat.le_refl _))
      have HEK : Hid (∀ (w4 : World) (S : Nat → Prop) v (i : Nat), Mo S w1.drew w4 → (∀ k, S k → k ≠ w.heap.size) → (w4.cell? ⟨w.heap.size, 0, none⟩ = some (.string Y) ∧ w4.cell? ⟨w.heap.size, 1, none⟩ = some (.int .i64 yy)) ∧ ((w4.setCell ⟨b, i, none⟩ v).cell? ⟨w.heap.size, 0, none⟩ = some (.string Y) ∧ (w4.setCell ⟨b, i, none⟩ v).cell? ⟨w.heap.size, 1, none⟩ = some (.int .i64 yy))) := hid_of fun w4 S v i hm hs => by
        have hn : ¬ S w.heap.size := fun h => hs _ h rfl
        have h1 := hm.cell (a := ⟨w.heap.size, 0, none⟩) (v := .string Y) q0 hn
        have h2 := hm.cell (a := ⟨w.heap.size, 1, none⟩) (v := .int .i64 yy) q1 hn
        have hb : (⟨w.heap.size, 0, none⟩ : Addr).block ≠ b := by have := HBX.out; show w.heap.size ≠ b; omega
        refine ⟨⟨h1, h2⟩, ?_, ?_⟩
        · unfold World.cell? at h1 ⊢
          rw [set_ne hb]; exact h1
        · unfold World.cell? at h2 ⊢
          rw [set_ne hb]; exact h2
      clear HEC HNC HC a0 a1 i0 i1 i2 i3 i4
      rcases hor with hlt | hgt
      · have hcc : CC < 0 := HLT.out.2 hlt
        have H4 := hid_of (IL.out w1.drew (HB2.out.trans (Below.refl _ w1).drew))
        go_wp2_with fail
        refine Last.start (fun V => V.cell? ⟨w.heap.size, 0, none⟩ = some (.string Y) ∧ V.cell? ⟨w.heap.size, 1, none⟩ = some (.int .i64 yy) ∧ V.cell? ⟨b, 3, none⟩ = some (.pointer LA)) 9 (by kernel_rfl) ?_
        have hs0 : (fun V => V.cell? ⟨w.heap.size, 0, none⟩ = some (.string Y) ∧ V.cell? ⟨w.heap.size, 1, none⟩ = some (.int .i64 yy) ∧ V.cell? ⟨b, 3, none⟩ = some (.pointer LA)) w1.drew := ⟨q0, q1, m3⟩
        refine Last.take2 10 (i := 0) (v := .pointer (some ⟨b, 0, none⟩)) rfl (by kernel_rfl) (by kernel_rfl) (by kernel_rfl) (by kernel_rfl) (by kernel_rfl) (fun _ _ _ h => h) (Or.inl ⟨by rfl, ?_⟩) (by assumption) ?_
        · intro W hSW
          obtain ⟨s0, s1, s2⟩ := hSW
          go_simp
        simp only [Act.put, List.setIfInBounds_toArray, List.set_cons_zero, List.set_cons_succ]
        refine Last.take2 10 (i := 1) (v := .pointer (some ⟨b, 0, none⟩)) rfl (by kernel_rfl) (by kernel_rfl) (by kernel_rfl) (by kernel_rfl) (by kernel_rfl) (fun _ _ _ h => h) (Or.inl ⟨by rfl, ?_⟩) (by assumption) ?_
        · intro W hSW
          obtain ⟨s0, s1, s2⟩ := hSW
          go_simp
        simp only [Act.put, List.setIfInBounds_toArray, List.set_cons_zero, List.set_cons_succ]
        refine Last.take2 10 (i := 2) (v := .pointer (some ⟨b, 0, none⟩)) rfl (by kernel_rfl) (by kernel_rfl) (by kernel_rfl) (by kernel_rfl) (by kernel_rfl) (fun _ _ _ h => h) (Or.inl ⟨by rfl, ?_⟩) (by assumption) ?_
        · intro W hSW
          obtain ⟨s0, s1, s2⟩ := hSW
          go_simp
        simp only [Act.put, List.setIfInBounds_toArray, List.set_cons_zero, List.set_cons_succ]
        refine Last.take2 10 (i := 3) (v := .pointer (some ⟨b, 3, none⟩)) rfl (by kernel_rfl) (by kernel_rfl) (by kernel_rfl) (by kernel_rfl) (by kernel_rfl) (fun _ _ _ h => h) (Or.inl ⟨by rfl, ?_⟩) (by assumption) ?_
        · intro W hSW
          obtain ⟨s0, s1, s2⟩ := hSW
          go_simp
        simp only [Act.put, List.setIfInBounds_toArray, List.set_cons_zero, List.set_cons_succ]
        refine Last.take2 10 (i := 4) (v := .pointer LA) rfl (by kernel_rfl) (by kernel_rfl) (by kernel_rfl) (by kernel_rfl) (by kernel_rfl) (fun _ _ _ h => h) (Or.inl ⟨by rfl, ?_⟩) (by assumption) ?_
        · intro W hSW
          obtain ⟨s0, s1, s2⟩ := hSW
          go_simp
        simp only [Act.put, List.setIfInBounds_toArray, List.set_cons_zero, List.set_cons_succ]
        refine Last.take2 10 (i := 5) (v := .agg #[.string Y, .int .i64 yy]) rfl (by kernel_rfl) (by kernel_rfl) (by kernel_rfl) (by kernel_rfl) (by kernel_rfl) (fun _ _ _ h => h) (Or.inl ⟨by rfl, ?_⟩) (by assumption) ?_
        · intro W hSW
          obtain ⟨s0, s1, s2⟩ := hSW
          go_simp
        simp only [Act.put, List.setIfInBounds_toArray, List.set_cons_zero, List.set_cons_succ]
        refine Last.one (i := 6) rfl (by kernel_rfl) ?_
        intro K' hK0
        have hK := hid_of hK0
        clear hK0
        go_simp
        refine H4.out.mono ?_
        rintro z w4 ⟨q4, t4, rfl, R4⟩
        have HE4 := HEK.out w4 _ (.pointer q4) 3 R4.out.2.mo HLW.out.1
        obtain ⟨k3, z3⟩ := HFZ3.out w1.drew w4 _ (HB2.out.trans (Below.refl _ w1).drew) R4.out.2.mo HNB.out.1
        have hs4 : (fun V => V.cell? ⟨w.heap.size, 0, none⟩ = some (.string Y) ∧ V.cell? ⟨w.heap.size, 1, none⟩ = some (.int .i64 yy) ∧ V.cell? ⟨b, 3, none⟩ = some (.pointer LA)) w4 := ⟨HE4.1.1, HE4.1.2, k3⟩
        refine hK.out _ _ (fun _ => hs4) ?_
        clear hK K'
        try simp only [Act.put, List.setIfInBounds_toArray, List.set_cons_zero, List.set_cons_succ]
        refine Last.one (i := 7) rfl (by kernel_rfl) ?_
        intro K' hK0
        have hK := hid_of hK0
        clear hK0
        go_simp
        refine hK.out _ _ (fun _ => hs4) ?_
        clear hK K'
        try simp only [Act.put, List.setIfInBounds_toArray, List.set_cons_zero, List.set_cons_succ]
        refine Last.one (i := 8) rfl (by kernel_rfl) ?_
        intro K' hK0
        have hK := hid_of hK0
        clear hK0
        go_simp
        refine hK.out _ _ (fun _ => hs4) ?_
        clear hK K'
        try simp only [Act.put, List.setIfInBounds_toArray, List.set_cons_zero, List.set_cons_succ]
        refine Last.one (i := 9) rfl (by kernel_rfl) ?_
        intro K' hK0
        have hK := hid_of hK0
        clear hK0
        go_simp
        refine hK.out _ _ (fun h => absurd rfl h) ?_
        clear hK K'
        refine Last.fin (by kernel_rfl) ?_ _
        have H5 := hid_of (HSL.out w1.drew w4 t4 q4 (HB2.out.trans (Below.refl _ w1).drew) R4.out hlt)
        go_wp2_with fail
        refine H5.out.mono ?_
        rintro z w5 hz5
        have HZ := hid_of hz5
        obtain ⟨q5, t5, rfl, R5⟩ := hz5
        go_wp2_with fail
        go_ret
        exact HZ.out
      · have hcc : ¬ CC < 0 := fun h => ltE_asy hgt (HLT.out.1 h)
        have H4 := hid_of (IR.out w1.drew (HB2.out.trans (Below.refl _ w1).drew))
        go_wp2_with fail
        refine Last.start (fun V => V.cell? ⟨w.heap.size, 0, none⟩ = some (.string Y) ∧ V.cell? ⟨w.heap.size, 1, none⟩ = some (.int .i64 yy) ∧ V.cell? ⟨b, 4, none⟩ = some (.pointer RA)) 9 (by kernel_rfl) ?_
        have hs0 : (fun V => V.cell? ⟨w.heap.size, 0, none⟩ = some (.string Y) ∧ V.cell? ⟨w.heap.size, 1, none⟩ = some (.int .i64 yy) ∧ V.cell? ⟨b, 4, none⟩ = some (.pointer RA)) w1.drew := ⟨q0, q1, m4⟩
        refine Last.take2 10 (i := 0) (v := .pointer (some ⟨b, 0, none⟩)) rfl (by kernel_rfl) (by kernel_rfl) (by kernel_rfl) (by kernel_rfl) (by kernel_rfl) (fun _ _ _ h => h) (Or.inl ⟨by rfl, ?_⟩) (by assumption) ?_
        · intro W hSW
          obtain ⟨s0, s1, s2⟩ := hSW
          go_simp
        simp only [Act.put, List.setIfInBounds_toArray, List.set_cons_zero, List.set_cons_succ]
        refine Last.take2 10 (i := 1) (v := .pointer (some ⟨b, 0, none⟩)) rfl (by kernel_rfl) (by kernel_rfl) (by kernel_rfl) (by kernel_rfl) (by kernel_rfl) (fun _ _ _ h => h) (Or.inl ⟨by rfl, ?_⟩) (by assumption) ?_
        · intro W hSW
          obtain ⟨s0, s1, s2⟩ := hSW
          go_simp
        simp only [Act.put, List.setIfInBounds_toArray, List.set_cons_zero, List.set_cons_succ]
        refine Last.take2 10 (i := 2) (v := .pointer (some ⟨b, 0, none⟩)) rfl (by kernel_rfl) (by kernel_rfl) (by kernel_rfl) (by kernel_rfl) (by kernel_rfl) (fun _ _ _ h => h) (Or.inl ⟨by rfl, ?_⟩) (by assumption) ?_
        · intro W hSW
          obtain ⟨s0, s1, s2⟩ := hSW
          go_simp
        simp only [Act.put, List.setIfInBounds_toArray, List.set_cons_zero, List.set_cons_succ]
        refine Last.take2 10 (i := 3) (v := .pointer (some ⟨b, 4, none⟩)) rfl (by kernel_rfl) (by kernel_rfl) (by kernel_rfl) (by kernel_rfl) (by kernel_rfl) (fun _ _ _ h => h) (Or.inl ⟨by rfl, ?_⟩) (by assumption) ?_
        · intro W hSW
          obtain ⟨s0, s1, s2⟩ := hSW
          go_simp
        simp only [Act.put, List.setIfInBounds_toArray, List.set_cons_zero, List.set_cons_succ]
        refine Last.take2 10 (i := 4) (v := .pointer RA) rfl (by kernel_rfl) (by kernel_rfl) (by kernel_rfl) (by kernel_rfl) (by kernel_rfl) (fun _ _ _ h => h) (Or.inl ⟨by rfl, ?_⟩) (by assumption) ?_
        · intro W hSW
          obtain ⟨s0, s1, s2⟩ := hSW
          go_simp
        simp only [Act.put, List.setIfInBounds_toArray, List.set_cons_zero, List.set_cons_succ]
        refine Last.take2 10 (i := 5) (v := .agg #[.string Y, .int .i64 yy]) rfl (by kernel_rfl) (by kernel_rfl) (by kernel_rfl) (by kernel_rfl) (by kernel_rfl) (fun _ _ _ h => h) (Or.inl ⟨by rfl, ?_⟩) (by assumption) ?_
        · intro W hSW
          obtain ⟨s0, s1, s2⟩ := hSW
          go_simp
        simp only [Act.put, List.setIfInBounds_toArray, List.set_cons_zero, List.set_cons_succ]
        refine Last.one (i := 6) rfl (by kernel_rfl) ?_
        intro K' hK0
        have hK := hid_of hK0
        clear hK0
        go_simp
        refine H4.out.mono ?_
        rintro z w4 ⟨q4, t4, rfl, R4⟩
        have HE4 := HEK.out w4 _ (.pointer q4) 4 R4.out.2.mo HLW.out.2
        obtain ⟨k3, z3⟩ := HFZ4.out w1.drew w4 _ (HB2.out.trans (Below.refl _ w1).drew) R4.out.2.mo HNB.out.2
        have hs4 : (fun V => V.cell? ⟨w.heap.size, 0, none⟩ = some (.string Y) ∧ V.cell? ⟨w.heap.size, 1, none⟩ = some (.int .i64 yy) ∧ V.cell? ⟨b, 4, none⟩ = some (.pointer RA)) w4 := ⟨HE4.1.1, HE4.1.2, k3⟩
        refine hK.out _ _ (fun _ => hs4) ?_
        clear hK K'
        try simp only [Act.put, List.setIfInBounds_toArray, List.set_cons_zero, List.set_cons_succ]
        refine Last.one (i := 7) rfl (by kernel_rfl) ?_
        intro K' hK0
        have hK := hid_of hK0
        clear hK0
        go_simp
        refine hK.out _ _ (fun _ => hs4) ?_
        clear hK K'
        try simp only [Act.put, List.setIfInBounds_toArray, List.set_cons_zero, List.set_cons_succ]
        refine Last.one (i := 8) rfl (by kernel_rfl) ?_
        intro K' hK0
        have hK := hid_of hK0
        clear hK0
        go_simp
        refine hK.out _ _ (fun _ => hs4) ?_
        clear hK K'
        try simp only [Act.put, List.setIfInBounds_toArray, List.set_cons_zero, List.set_cons_succ]
        refine Last.one (i := 9) rfl (by kernel_rfl) ?_
        intro K' hK0
        have hK := hid_of hK0
        clear hK0
        go_simp
        refine hK.out _ _ (fun h => absurd rfl h) ?_
        clear hK K'
        refine Last.fin (by kernel_rfl) ?_ _
        have H5 := hid_of (HSR.out w1.drew w4 t4 q4 (HB2.out.trans (Below.refl _ w1).drew) R4.out hgt)
        go_wp2_with fail
        refine H5.out.mono ?_
        rintro z w5 hz5
        have HZ := hid_of hz5
        obtain ⟨q5, t5, rfl, R5⟩ := hz5
        go_wp2_with fail
        go_ret
        exact HZ.out
end Go.Proofs.YtighoelipihifabGreatDoor.Without
