/- lay, free, Of, List. -/
import Derived.Test.YtdmjfmojacnbeaaHeld
namespace Go.Proofs.Ytdmjfmojacnbeaa.Lay
open Go.RowKit
open Go.Proofs.Ytdmjfmojacnbeaa.Base
open Go.Proofs.Ytdmjfmojacnbeaa.Held
set_option linter.unusedVariables false
set_option linter.unusedSimpArgs false
theorem made_row (n : Nat) : (madeCells #[V Z] n).toList = (List.replicate n Z).map V := by
  rw [toList_madeCells_one]
  simp
theorem row_of_own {w : World} {base g n : Nat} (h : w.ownsRow base 3 1 (.slice (some ⟨g, 0, none⟩) n n) n (madeCells #[V Z] n).toList) : RowIs w g (List.replicate n Z) := by
  rw [made_row] at h
  rcases h.2 with ⟨e, _⟩ | ⟨g', cap, cur, e, hb, hg, h1, h2, h3, h4⟩
  · cases e
  · simp only [Value.slice.injEq, Option.some.injEq, Addr.mk.injEq] at e
    obtain ⟨⟨rfl, -⟩, -, rfl⟩ := e
    unfold RowIs
    rw [hg, show cur = cells (List.replicate n Z) from by
      apply Array.ext'
      rw [← List.take_of_length_le (l := cur.toList) (i := n * 1) (by simp; omega), h4]
      simp [cells]]
theorem size_some : (Try.prog.info? 3).map (·.size) = some 1 := by kernel_rfl
/-- copy: what is read first is laid -/
theorem copy_run {G : Nat → Prop} {w : World} {g : Nat} {xs : List El} (hr : RowIs w g xs) {d : Option Addr} {o dn dc : Nat} {sa : Option Addr} {s : List El} {sc : Nat} (hs : Rd G w sa s) (hd : 0 < (s.take dn).length → d = some ⟨g, o, none⟩) (ho : o + (s.take dn).length ≤ xs.length) :
    ∃ w', (∀ ty, (Builtin.copy_ #[22, 22] ty #[.slice d dn dc, .slice sa s.length sc]).run Try.prog w = .ok (goInt (s.take dn).length) w') ∧ RowIs w' g (lay xs o (s.take dn)) ∧ ∃ cs, w' = w.setRow g cs := by
  by_cases q : (s.take dn) = []
  · have h0 : Nat.min s.length dn = 0 := by
      have := congrArg List.length q
      simp at this
      rcases this with h | h
      · subst h; simp
      · subst h; simp
    refine ⟨w, fun ty => ?_, by rw [q, lay_nil]; exact hr, cells xs, (setRow_self w g _ 3 (0, 0) hr).symm⟩
    rw [q]
    exact run_copy_none w 22 22 ty 3 d sa dn dc s.length sc Try.underlying22 size_some h0
  · have hp : 0 < (s.take dn).length := List.length_pos_iff.2 q
    rw [hd hp]
    rcases hs with rfl | ⟨g', o', rfl, _, hc⟩
    · simp at hp
    · refine ⟨_, fun ty => ?_, hr.lay o (s.take dn), _, rfl⟩
      have := run_copy_row Try.prog w 22 22 ty 3 g o dn dc ⟨g', o', none⟩ s.length sc (cells xs) 3 ((s.take dn).map V) Try.underlying22 size_some hr (by rw [List.length_map, List.length_take]; exact Nat.min_comm _ _) (fun j v hj => by
        rw [List.getElem?_map, List.getElem?_take] at hj
        rw [add_off]
        split at hj
        · obtain ⟨x, hx, rfl⟩ := Option.map_eq_some_iff.1 hj
          exact hc j x hx
        · cases hj) (by rw [List.length_map, cells_size]; exact ho) (fun v hv => by
        obtain ⟨x, _, rfl⟩ := List.mem_map.1 hv
        rfl)
      rw [this, List.length_map]
theorem lay_is (s n : Nat) (l : List El) (h : s + l.length ≤ n) : ((lay (List.replicate n Z) s l).drop s).take l.length = l := by
  unfold lay
  rw [List.append_assoc, List.drop_append_of_le_length (by simp; omega)]
  have : ((List.replicate n Z).take s).drop s = [] := by simp; omega
  rw [this]
  simp
set_option maxHeartbeats 1000000 in
set_option maxRecDepth 100000 in
theorem lay_call {F : Nat → Prop} {b : Nat} {l : List El} {w : World} (h : DQ F b l w) (s : Nat) (hs : (2 * s + l.length) * 8 ≤ 281474976710656) :
    Calls Try.prog 78 #[ptr b, .int .i64 (s : Int)] w fun e w' => e = .returned (.tuple #[]) ∧ (∃ a c xs, DK (Gr F w) b a (2 * s + l.length) c s xs l w') ∧ Fr F w w' := by
  obtain ⟨a, n, c, f, xs, h⟩ := h
  have H := hid_of (held_call h)
  obtain ⟨i0, hi, hz0, hz1, hz2⟩ := info_parts info3
  obtain ⟨t, HT⟩ : ∃ t, Hid (t = s + l.length) := ⟨_, hid_of rfl⟩
  obtain ⟨N, HN⟩ : ∃ N, Hid (N = 2 * s + l.length) := ⟨_, hid_of rfl⟩
  rw [← HN.out] at hs ⊢
  have e1 : (s : Int) + (l.length : Int) = (t : Int) := by rw [HT.out]; simp
  have e2 : (t : Int) + (s : Int) = (N : Int) := by rw [HT.out, HN.out]; simp; omega
  have hsN : s ≤ N := by rw [HN.out]; omega
  have hb := lt_of h.blk
  have HD := hid_of h
  clear h
  go_enter Try.func78, Try.ntmps78
  go_wp2_with fail
  refine H.out.mono ?_
  rintro e w1 ⟨rfl, m1, rfl⟩
  have b1 : s ≤ 281474976710656 := by omega
  have b2 : l.length ≤ 281474976710656 := by have := HN.out; omega
  have b3 : t ≤ 281474976710656 := by have := HN.out; have := HT.out; omega
  go_wp2_with (at_make; refine wpList_make_full _ rfl _ _ 22 rfl w.heap.size 3 i0 (V Z) 1 Try.underlying22 hi hz0 hz1 _ _ _ _ N rfl rfl (by first | rfl | exact e2) (by first | rfl | exact e2) ?b2 ?b3 (Nat.le_refl _) ?_)
  case b2 => rw [hz2]; omega
  case b3 => unfold maxLen; omega
  intro w0 hown0 hgrow0
  have hb0 : Below w.heap.size w w0 := (bel_drewN w m1).trans ((Below.refl _ _).grown hgrow0 (Nat.le_refl _) (fun k h => by cases h))
  have hr0 : RowIs w0 w.heap.size (List.replicate N Z) := row_of_own hown0
  have hcut := cut_lo (some ⟨w.heap.size, 0, none⟩) N N s (s : Int) rfl hsN
  have hsrc : Rd F w0 (ca a c f) l := HD.out.rd.keep fun k hk _ => hb0.block k hk
  have htk : l.take (N - s) = l := List.take_of_length_le (by rw [HN.out]; omega)
  obtain ⟨w2, hcp, hr2, cs, hw2⟩ := copy_run (d := ca (some ⟨w.heap.size, 0, none⟩) N s) (o := s) (dn := N - s) (dc := N - s) (sc := c - f) hr0 hsrc (fun hp => by
    rw [htk] at hp
    rw [ca_some _ _ _ _ (by rw [HN.out]; omega), Nat.zero_add]) (by rw [htk, List.length_replicate, HN.out]; omega)
  rw [htk] at hr2
  have hb2 : w2.heap[b]? = w.heap[b]? := by
    rw [hw2, row_ne (by omega)]
    exact hb0.block b hb
  have c0 : w2.heap[b]? = _ := hb2.trans HD.out.blk
  have k0 : w2.cell? ⟨b, 0, none⟩ = _ := Lib.cell_of_heap c0 0
  have k1 : w2.cell? ⟨b, 1, none⟩ = _ := Lib.cell_of_heap c0 1
  have k2 : w2.cell? ⟨b, 2, none⟩ = _ := Lib.cell_of_heap c0 2
  have z0 : w2.frozen? ⟨b, 0, none⟩ = false := Lib.frozen_of_heap c0 0
  have z1 : w2.frozen? ⟨b, 1, none⟩ = false := Lib.frozen_of_heap c0 1
  have z2 : w2.frozen? ⟨b, 2, none⟩ = false := Lib.frozen_of_heap c0 2
  have hbb : w.heap.size ≠ b := by omega
  have HR := hid_of (And.intro hr2 (And.intro c0 (And.intro hb0 hw2)))
  clear hr0 hsrc hr2 hw2 hb0 hown0 hgrow0 hb2 c0
  go_wp2_with (simp only [hcp])
  go_end0
  refine ⟨rfl, ?_, ?_⟩
  · obtain ⟨r1, r2, r3, r4⟩ := HR.out
    have hlay : (lay (List.replicate N Z) s l).length = N := by rw [lay_len (by rw [List.length_replicate, HN.out]; omega), List.length_replicate]
    refine ⟨_, _, _, ⟨?_, .inl HD.out.own, by rw [HN.out]; omega, Nat.le_refl _, by omega, .inr ⟨w.heap.size, rfl, .inr (Nat.le_refl _), hlay, ?_⟩, lay_is s N l (by rw [HN.out]; omega)⟩⟩
    · rw [set_at (set_at (set_at r2 _) _) _, ← HT.out]
      simp
    · unfold RowIs
      rw [set_ne hbb, set_ne hbb, set_ne hbb]
      exact r1
  · obtain ⟨r1, r2, r3, r4⟩ := HR.out
    have f1 : Fr F w w2 := by
      rw [r4]
      exact (Fr.of_below r3).trans (Fr.row (.inr (Nat.le_refl _)) _)
    exact ((f1.trans (Fr.set (.inl HD.out.own) _)).trans (Fr.set (.inl HD.out.own) _)).trans (Fr.set (.inl HD.out.own) _)
end Go.Proofs.Ytdmjfmojacnbeaa.Lay
