/- lay, free, Of, List. free, Of, List, PushBack, PushFront. PushBack. within, keep. -/
import Derived.Test.YtpibeabokedpdaaGreatDoorDqBaseM
import Derived.Deep.QuietTactic
section
namespace Go.Proofs.YtpibeabokedpdaaGreatDoor.DqSLay
open Go.RowKit
open Go.Proofs.YtpibeabokedpdaaGreatDoor.DqSBase
open Go.Proofs.YtpibeabokedpdaaGreatDoor.DqBase (Fr Gr ptr hid_of lt_of set_at set_ne size_set row_ne size_row add_off bel_drewN ca ca_some ca_zero cell_lt)
open Go.Proofs.YtpibeabokedpdaaGreatDoor.DqSHeld
set_option linter.unusedVariables false
set_option linter.unusedSimpArgs false
theorem made_row (n : Nat) : (madeCells #[V Z] n).toList = (List.replicate n Z).map V := by
  rw [toList_madeCells_one]
  simp
theorem row_of_own {w : World} {base g n : Nat} (h : w.ownsRow base 9 1 (.slice (some ⟨g, 0, none⟩) n n) n (madeCells #[V Z] n).toList) : RowIs w g (List.replicate n Z) := by
  rw [made_row] at h
  rcases h.2 with ⟨e, _⟩ | ⟨g', cap, cur, e, hb, hg, h1, h2, h3, h4⟩
  · cases e
  · simp only [Value.slice.injEq, Option.some.injEq, Addr.mk.injEq] at e
    obtain ⟨⟨rfl, -⟩, -, rfl⟩ := e
    unfold RowIs
    rw [hg, show cur = cells (List.replicate n Z) from by
      apply Array.ext'
      rw [← List.take_of_length_le (l := cur.toList) (i := n * 1) (by simp; omega), h4]
      simp [cells]]
theorem size_some : (Tryz.prog.info? 9).map (·.size) = some 1 := by kernel_rfl
/-- copy: what is read first is laid -/
theorem copy_run {G : Nat → Prop} {w : World} {g : Nat} {xs : List El} (hr : RowIs w g xs) {d : Option Addr} {o dn dc : Nat} {sa : Option Addr} {s : List El} {sc : Nat} (hs : Rd G w sa s) (hd : 0 < (s.take dn).length → d = some ⟨g, o, none⟩) (ho : o + (s.take dn).length ≤ xs.length) :
    ∃ w', (∀ ty, (Builtin.copy_ #[22, 22] ty #[.slice d dn dc, .slice sa s.length sc]).run Tryz.prog w = .ok (goInt (s.take dn).length) w') ∧ RowIs w' g (lay xs o (s.take dn)) ∧ ∃ cs, w' = w.setRow g cs := by
  by_cases q : (s.take dn) = []
  · have h0 : Nat.min s.length dn = 0 := by
      have := congrArg List.length q
      simp at this
      rcases this with h | h
      · subst h; simp
      · subst h; simp
    refine ⟨w, fun ty => ?_, by rw [q, lay_nil]; exact hr, cells xs, (setRow_self w g _ 9 (0, 0) hr).symm⟩
    rw [q]
    exact run_copy_none w 22 22 ty 9 d sa dn dc s.length sc Tryz.underlying22 size_some h0
  · have hp : 0 < (s.take dn).length := List.length_pos_iff.2 q
    rw [hd hp]
    rcases hs with rfl | ⟨g', o', rfl, _, hc⟩
    · simp at hp
    · refine ⟨_, fun ty => ?_, hr.lay o (s.take dn), _, rfl⟩
      have := run_copy_row Tryz.prog w 22 22 ty 9 g o dn dc ⟨g', o', none⟩ s.length sc (cells xs) 9 ((s.take dn).map V) Tryz.underlying22 size_some hr (by rw [List.length_map, List.length_take]; exact Nat.min_comm _ _) (fun j v hj => by
        rw [List.getElem?_map, List.getElem?_take] at hj
        rw [add_off]
        split at hj
        · obtain ⟨x, hx, rfl⟩ := Option.map_eq_some_iff.1 hj
          exact hc j x hx
        · cases hj) (by rw [List.length_map, cells_size]; exact ho) (fun v hv => by
        obtain ⟨x, _, rfl⟩ := List.mem_map.1 hv
        rfl)
      rw [this, List.length_map]
theorem lay_is (s n : Nat) (l : List El) (h : s + l.length ≤ n) : ((lay (List.replicate n Z) s l).drop s).take l.length = l := by
  unfold lay
  rw [List.append_assoc, List.drop_append_of_le_length (by simp; omega)]
  have : ((List.replicate n Z).take s).drop s = [] := by simp; omega
  rw [this]
  simp
set_option maxHeartbeats 1000000 in
set_option maxRecDepth 100000 in
theorem lay_call {F : Nat → Prop} {b : Nat} {l : List El} {w : World} (h : DQ F b l w) (s : Nat) (hs : (2 * s + l.length) * 16 ≤ 281474976710656) :
    Calls Tryz.prog 158 #[ptr b, .int .i64 (s : Int)] w fun e w' => e = .returned (.tuple #[]) ∧ (∃ a c xs, DK (Gr F w) b a (2 * s + l.length) c s xs l w') ∧ Fr F w w' := by
  obtain ⟨a, n, c, f, xs, h⟩ := h
  have H := hid_of (held_call h)
  obtain ⟨i0, hi, hz0, hz1, hz2⟩ := info_parts info9
  obtain ⟨t, HT⟩ : ∃ t, Hid (t = s + l.length) := ⟨_, hid_of rfl⟩
  obtain ⟨N, HN⟩ : ∃ N, Hid (N = 2 * s + l.length) := ⟨_, hid_of rfl⟩
  rw [← HN.out] at hs ⊢
  have e1 : (s : Int) + (l.length : Int) = (t : Int) := by rw [HT.out]; simp
  have e2 : (t : Int) + (s : Int) = (N : Int) := by rw [HT.out, HN.out]; simp; omega
  have hsN : s ≤ N := by rw [HN.out]; omega
  have hb := lt_of h.blk
  have HD := hid_of h
  clear h
  go_enter Tryz.func158, Tryz.ntmps158
  go_wp2_with fail
  refine H.out.mono ?_
  rintro e w1 ⟨rfl, m1, rfl⟩
  have b1 : s ≤ 281474976710656 := by omega
  have b2 : l.length ≤ 281474976710656 := by have := HN.out; omega
  have b3 : t ≤ 281474976710656 := by have := HN.out; have := HT.out; omega
  go_wp2_with (at_make; refine wpList_make_full _ rfl _ _ 22 rfl w.heap.size 9 i0 (V Z) 1 Tryz.underlying22 hi hz0 hz1 _ _ _ _ N rfl rfl (by first | rfl | exact e2) (by first | rfl | exact e2) ?b2 ?b3 (Nat.le_refl _) ?_)
  case b2 => rw [hz2]; omega
  case b3 => unfold maxLen; omega
  intro w0 hown0 hgrow0
  have hb0 : Below w.heap.size w w0 := (bel_drewN w m1).trans ((Below.refl _ _).grown hgrow0 (Nat.le_refl _) (fun k h => by cases h))
  have hr0 : RowIs w0 w.heap.size (List.replicate N Z) := row_of_own hown0
  have hcut := cut_lo (some ⟨w.heap.size, 0, none⟩) N N s (s : Int) rfl hsN
  have hsrc : Rd F w0 (ca a c f) l := HD.out.rd.keep fun k hk _ => hb0.block k hk
  have htk : l.take (N - s) = l := List.take_of_length_le (by rw [HN.out]; omega)
  obtain ⟨w2, hcp, hr2, cs, hw2⟩ := copy_run (d := ca (some ⟨w.heap.size, 0, none⟩) N s) (o := s) (dn := N - s) (dc := N - s) (sc := c - f) hr0 hsrc (fun hp => by
    rw [htk] at hp
    rw [ca_some _ _ _ _ (by rw [HN.out]; omega), Nat.zero_add]) (by rw [htk, List.length_replicate, HN.out]; omega)
  rw [htk] at hr2
  have hb2 : w2.heap[b]? = w.heap[b]? := by
    rw [hw2, row_ne (by omega)]
    exact hb0.block b hb
  have c0 : w2.heap[b]? = _ := hb2.trans HD.out.blk
  have k0 : w2.cell? ⟨b, 0, none⟩ = _ := Lib.cell_of_heap c0 0
  have k1 : w2.cell? ⟨b, 1, none⟩ = _ := Lib.cell_of_heap c0 1
  have k2 : w2.cell? ⟨b, 2, none⟩ = _ := Lib.cell_of_heap c0 2
  have z0 : w2.frozen? ⟨b, 0, none⟩ = false := Lib.frozen_of_heap c0 0
  have z1 : w2.frozen? ⟨b, 1, none⟩ = false := Lib.frozen_of_heap c0 1
  have z2 : w2.frozen? ⟨b, 2, none⟩ = false := Lib.frozen_of_heap c0 2
  have hbb : w.heap.size ≠ b := by omega
  have HR := hid_of (And.intro hr2 (And.intro c0 (And.intro hb0 hw2)))
  clear hr0 hsrc hr2 hw2 hb0 hown0 hgrow0 hb2 c0
  go_wp2_with (simp only [hcp])
  go_end0
  refine ⟨rfl, ?_, ?_⟩
  · obtain ⟨r1, r2, r3, r4⟩ := HR.out
    have hlay : (lay (List.replicate N Z) s l).length = N := by rw [lay_len (by rw [List.length_replicate, HN.out]; omega), List.length_replicate]
    refine ⟨_, _, _, ⟨?_, .inl HD.out.own, by rw [HN.out]; omega, Nat.le_refl _, by omega, .inr ⟨w.heap.size, rfl, .inr (Nat.le_refl _), hlay, ?_⟩, lay_is s N l (by rw [HN.out]; omega)⟩⟩
    · rw [set_at (set_at (set_at r2 _) _) _, ← HT.out]
      simp
    · unfold RowIs
      rw [set_ne hbb, set_ne hbb, set_ne hbb]
      exact r1
  · obtain ⟨r1, r2, r3, r4⟩ := HR.out
    have f1 : Fr F w w2 := by
      rw [r4]
      exact (Fr.of_below r3).trans (Fr.row (.inr (Nat.le_refl _)) _)
    exact ((f1.trans (Fr.set (.inl HD.out.own) _)).trans (Fr.set (.inl HD.out.own) _)).trans (Fr.set (.inl HD.out.own) _)
end Go.Proofs.YtpibeabokedpdaaGreatDoor.DqSLay
end
section
namespace Go.Proofs.YtpibeabokedpdaaGreatDoor.DqSFree
open Go.RowKit
open Go.Proofs.YtpibeabokedpdaaGreatDoor.DqSBase
open Go.Proofs.YtpibeabokedpdaaGreatDoor.DqBase (Fr Gr ptr hid_of lt_of set_at set_ne size_set row_ne size_row add_off bel_drewN ca ca_some ca_zero cell_lt)
open Go.Proofs.YtpibeabokedpdaaGreatDoor.DqSHeld
open Go.Proofs.YtpibeabokedpdaaGreatDoor.DqSLay
set_option linter.unusedVariables false
set_option linter.unusedSimpArgs false
theorem DK.up {F : Nat → Prop} {b : Nat} {a : Option Addr} {n c f : Nat} {xs l : List El} {w : World} (h : DK F b a n c f xs l w) (w0 : World) : DK (Gr F w0) b a n c f xs l w := h.mono fun _ _ e => .inl e
theorem DK.drewN {F : Nat → Prop} {b : Nat} {a : Option Addr} {n c f : Nat} {xs l : List El} {w : World} (h : DK F b a n c f xs l w) (m : Nat) : DK F b a n c f xs l (w.drewN m) := h.keep fun _ _ _ => rfl
set_option maxHeartbeats 1000000 in
set_option maxRecDepth 100000 in
theorem free_call {F : Nat → Prop} {b : Nat} {l : List El} {w : World} (h : DQ F b l w) (x y : Nat) (X Y : Int) (hX : X = x) (hY : Y = y) (hs : (2 * (x + l.length + y) + l.length) * 16 ≤ 281474976710656) :
    Calls Tryz.prog 121 #[ptr b, .int .i64 X, .int .i64 Y] w fun e w' => e = .returned (.tuple #[]) ∧ (∃ a n c f xs, DK (Gr F w) b a n c f xs l w' ∧ x ≤ f ∧ f + l.length + y ≤ n) ∧ Fr F w w' := by
  have HQ := hid_of h
  have HL := hid_of (fun m => lay_call (h.drewN m) (x + l.length + y) hs)
  have HN := hid_of (fun m => len_call (h.drewN m))
  obtain ⟨a, n, c, f, xs, h⟩ := h
  have c0 : w.cell? ⟨b, 0, none⟩ = some (.slice a n c) := h.cell 0
  have c1 : w.cell? ⟨b, 1, none⟩ = some (.int .i64 (f : Int)) := h.cell 1
  obtain ⟨t, HT⟩ : ∃ t, Hid (t = f + l.length) := ⟨_, hid_of rfl⟩
  have c2 : w.cell? ⟨b, 2, none⟩ = some (.int .i64 (t : Int)) := by rw [HT.out]; exact h.cell 2
  have h1 : t ≤ n := by rw [HT.out]; exact h.fit
  have h2 := h.lim
  have b1 : x ≤ 281474976710656 := by omega
  have b2 : y ≤ 281474976710656 := by omega
  have b3 : l.length ≤ 281474976710656 := by omega
  obtain ⟨S, HS⟩ : ∃ S, Hid (S = x + l.length + y) := ⟨_, hid_of rfl⟩
  rw [← HS.out] at HL
  have eS : X + (l.length : Int) + Y = (S : Int) := by rw [HS.out, hX, hY]; simp
  have HX := hid_of (And.intro hX hY)
  have bX : 0 ≤ X ∧ X ≤ 281474976710656 := by omega
  have bY : 0 ≤ Y ∧ Y ≤ 281474976710656 := by omega
  obtain ⟨bX1, bX2⟩ := bX
  obtain ⟨bY1, bY2⟩ := bY
  have HD := hid_of h
  have w2 : IntKind.i64.wrap ((n : Int) - (t : Int)) = (n : Int) - (t : Int) := IntWalk.i64_in _ (by omega)
  have w3 : IntKind.i64.wrap (X + (l.length : Int)) = X + (l.length : Int) := IntWalk.i64_in _ (by omega)
  clear h hX hY hs
  by_cases g1 : (f : Int) < X
  · have d1 : decide ((f : Int) < X) = true := by simpa using g1
    go_enter Tryz.func121, Tryz.ntmps121
    go_wp2_with fail
    go_quiet (fail)
    go_wp2_with fail
    refine (HN.out _).mono ?_
    rintro e w1 ⟨rfl, m, rfl⟩
    go_wp2_with fail
    refine (HL.out (nq + m)).mono ?_
    rintro e w1 ⟨rfl, ⟨a', c', xs', k⟩, fr⟩
    have K := hid_of (And.intro k fr)
    clear k fr
    go_wp2_with fail
    go_end0
    exact ⟨rfl, ⟨a', _, c', _, xs', K.out.1, by rw [HS.out]; omega, by rw [HS.out]; omega⟩, ⟨K.out.2.os, K.out.2.tape, K.out.2.output, K.out.2.size, K.out.2.block⟩⟩
  · have d1 : decide ((f : Int) < X) = false := by simpa using g1
    by_cases g2 : (n : Int) - (t : Int) < Y
    · have d2 : decide ((n : Int) - (t : Int) < Y) = true := by simpa using g2
      go_enter Tryz.func121, Tryz.ntmps121
      go_wp2_with fail
      go_quiet (fail)
      go_wp2_with fail
      refine (HN.out _).mono ?_
      rintro e w1 ⟨rfl, m, rfl⟩
      go_wp2_with fail
      refine (HL.out (nq + m)).mono ?_
      rintro e w1 ⟨rfl, ⟨a', c', xs', k⟩, fr⟩
      have K := hid_of (And.intro k fr)
      clear k fr
      go_wp2_with fail
      go_end0
      exact ⟨rfl, ⟨a', _, c', _, xs', K.out.1, by rw [HS.out]; omega, by rw [HS.out]; omega⟩, ⟨K.out.2.os, K.out.2.tape, K.out.2.output, K.out.2.size, K.out.2.block⟩⟩
    · have d2 : decide ((n : Int) - (t : Int) < Y) = false := by simpa using g2
      go_enter Tryz.func121, Tryz.ntmps121
      go_wp2_with fail
      go_quiet (fail)
      go_wp2_with fail
      go_end0
      have hx := HX.out
      have ht := HT.out
      exact ⟨rfl, ⟨a, n, c, f, xs, DK.up (DK.drewN HD.out nq) w, by omega, by omega⟩, (Fr.refl _ _).drewN _⟩
set_option maxRecDepth 100000 in
theorem list_call {F : Nat → Prop} {b : Nat} {l : List El} {w : World} (h : DQ F b l w) (hb : l.length * 16 ≤ 140737488355328) :
    Calls Tryz.prog 124 #[ptr b] w fun e w' => ∃ v, e = .returned v ∧ NR w.heap.size w' v l ∧ Below w.heap.size w w' := by
  obtain ⟨a, n, c, f, xs, h⟩ := h
  have H := hid_of (held_call h)
  have HF := hid_of (fun m => fresh_call (w := w.drewN m) (G := F) (v := .slice (ca a c f) l.length (c - f)) ⟨_, _, rfl, by have := h.fit; have := h.nc; omega, (DK.drewN h m).rd⟩ hb)
  clear h hb
  go_enter Tryz.func124, Tryz.ntmps124
  go_wp2_with fail
  refine H.out.mono ?_
  rintro e w1 ⟨rfl, m, rfl⟩
  go_wp2_with fail
  refine (HF.out m).mono ?_
  rintro e w1 ⟨v, rfl, hn, hbl⟩
  have K := hid_of (And.intro hn hbl)
  clear hn hbl
  go_wp2_with fail
  go_ret
  exact ⟨v, rfl, K.out.1, (bel_drewN w m).trans K.out.2⟩
theorem NR.shape {B : Nat} {w : World} {v : Value} {l : List El} (h : NR B w v l) : ∃ a c, v = .slice a l.length c ∧ l.length ≤ c ∧ ((a = none ∧ c = 0) ∨ ∃ g xs, a = some ⟨g, 0, none⟩ ∧ B ≤ g ∧ xs.length = c ∧ RowIs w g xs ∧ xs.take l.length = l) := by
  rcases h with ⟨rfl, rfl⟩ | ⟨g, c, xs, rfl, hB, hr, hx, hl, ht⟩
  · exact ⟨none, 0, rfl, Nat.le_refl _, .inl ⟨rfl, rfl⟩⟩
  · exact ⟨_, c, rfl, hl, .inr ⟨g, xs, rfl, hB, hx, hr, ht⟩⟩
set_option maxRecDepth 100000 in
theorem of_call {G : Nat → Prop} {w : World} {v : Value} {l : List El} (h : SL G w v l) (hb : l.length * 16 ≤ 140737488355328) :
    Calls Tryz.prog 118 #[v] w fun e w' => ∃ b, e = .returned (ptr b) ∧ DQ (fun k => w.heap.size ≤ k) b l w' ∧ Below w.heap.size w w' := by
  have HF := hid_of (fresh_call h hb)
  obtain ⟨a, c, rfl, hc, hr⟩ := h
  have HB := hid_of hb
  clear hr hc hb
  go_enter Tryz.func118, Tryz.ntmps118
  go_wp2_with fail
  refine HF.out.mono ?_
  rintro e w1 ⟨v, rfl, hn, hbl⟩
  obtain ⟨a', c', rfl, hc', hr'⟩ := NR.shape hn
  have K := hid_of (And.intro hr' (And.intro hbl hc'))
  clear hn hbl hr' hc'
  go_wp2_with fail
  go_ret
  obtain ⟨k1, k2, k3⟩ := K.out
  have b2 := (Below.refl w1.heap.size w1).alloc (Nat.le_refl _) (.cells #[.slice a' l.length c', .int .i64 0, .int .i64 (l.length : Int)] 178)
  refine ⟨w1.heap.size, rfl, ?_, k2.trans (b2.mono k2.size)⟩
  rcases k1 with ⟨rfl, rfl⟩ | ⟨g, xs, rfl, hB, hx, hr, ht⟩
  · refine ⟨none, l.length, 0, 0, [], ⟨?_, k2.size, by omega, k3, by have := HB.out; omega, .inl ⟨rfl, rfl⟩, ?_⟩⟩
    · rw [heap_alloc_new]; simp
    · have : l = [] := by cases l with
        | nil => rfl
        | cons a r => simp at k3
      subst this; rfl
  · refine ⟨_, l.length, c', 0, xs, ⟨?_, k2.size, by omega, k3, by have := HB.out; omega, .inr ⟨g, rfl, hB, hx, (b2.block g hr.lt).trans hr⟩, by simpa using ht⟩⟩
    rw [heap_alloc_new]; simp
end Go.Proofs.YtpibeabokedpdaaGreatDoor.DqSFree
end
section
namespace Go.Proofs.YtpibeabokedpdaaGreatDoor.DqSPush
open Go.RowKit
open Go.Proofs.YtpibeabokedpdaaGreatDoor.DqSBase
open Go.Proofs.YtpibeabokedpdaaGreatDoor.DqBase (Fr Gr ptr hid_of lt_of set_at set_ne size_set row_ne size_row add_off bel_drewN ca ca_some ca_zero cell_lt)
open Go.Proofs.YtpibeabokedpdaaGreatDoor.DqSHeld
open Go.Proofs.YtpibeabokedpdaaGreatDoor.DqSLay
open Go.Proofs.YtpibeabokedpdaaGreatDoor.DqSFree
set_option linter.unusedVariables false
set_option linter.unusedSimpArgs false
theorem back_is {xs l m : List El} {f : Nat} (h : (xs.drop f).take l.length = l) (hx : f + l.length + m.length ≤ xs.length) : ((lay xs (f + l.length) m).drop f).take (l ++ m).length = l ++ m := by
  have e1 : (xs.take (f + l.length)).drop f = l := by rw [List.drop_take, show f + l.length - f = l.length by omega, h]
  have e2 : (xs.take (f + l.length)).length = f + l.length := by simp; omega
  unfold lay
  rw [List.append_assoc, List.drop_append_of_le_length (by omega), e1, ← List.append_assoc, List.take_left']
  rfl
theorem SL.shape {G : Nat → Prop} {w : World} {v : Value} {m : List El} (h : SL G w v m) : ∃ a c, v = .slice a m.length c ∧ m.length ≤ c ∧ Rd G w a m := h
theorem rd_fr {F : Nat → Prop} {w w' : World} {a : Option Addr} {m : List El} (h : Rd (fun k => ¬ F k) w a m) (f : Fr F w w') : Rd (fun k => ¬ Gr F w k) w' a m := by
  refine (h.lt.keep fun k hk hn => f.block k hk hn.1).mono fun k _ hn e => ?_
  rcases e with e | e
  · exact hn.1 e
  · exact absurd hn.2 (by omega)
/-- what a copy behind the last element does -/
theorem copy_back {F G : Nat → Prop} {b : Nat} {a : Option Addr} {n c f : Nat} {xs l m : List El} {w : World} (h : DK F b a n c f xs l w) {am : Option Addr} {cm : Nat} (hm : Rd G w am m) (hf : f + l.length + m.length ≤ n) :
    ∃ W2 xs', (∀ ty, (Builtin.copy_ #[22, 22] ty #[.slice (ca a c (f + l.length)) (n - (f + l.length)) (c - (f + l.length)), .slice am m.length cm]).run Tryz.prog w = .ok (goInt m.length) W2) ∧
      DK F b a n c f xs' (l ++ m) (W2.setCell ⟨b, 2, none⟩ (.int .i64 ((f + l.length + m.length : Nat) : Int))) ∧ Fr F w W2 ∧ W2.heap[b]? = w.heap[b]? := by
  have hnc := h.nc
  by_cases q : m = []
  · subst q
    refine ⟨w, xs, fun ty => run_copy_none w 22 22 ty 9 _ _ _ _ _ _ Tryz.underlying22 size_some (by simp), ⟨?_, h.own, by simpa using h.fit, h.nc, h.lim, ?_, by simpa using h.is⟩, Fr.refl _ _, rfl⟩
    · rw [set_at h.blk]; simp
    · rcases h.row with r | ⟨g, e, hF, hx, hr⟩
      · exact .inl r
      · exact .inr ⟨g, e, hF, hx, (set_ne (Ne.symm (h.ne hr)) _).trans hr⟩
  · have hp : 0 < m.length := List.length_pos_iff.2 q
    have htk : m.take (n - (f + l.length)) = m := List.take_of_length_le (by omega)
    rcases h.row with ⟨_, rfl⟩ | ⟨g, rfl, hF, hx, hr⟩
    · omega
    · obtain ⟨W2, hcp, hr2, cs, hw2⟩ := copy_run (d := ca (some ⟨g, 0, none⟩) c (f + l.length)) (o := f + l.length) (dn := n - (f + l.length)) (dc := c - (f + l.length)) (sc := cm) hr hm (fun _ => by rw [ca_some _ _ _ _ (by omega), Nat.zero_add]) (by rw [htk]; omega)
      rw [htk] at hcp hr2
      have hb2 : W2.heap[b]? = w.heap[b]? := by rw [hw2, row_ne (h.ne hr)]
      refine ⟨W2, _, hcp, ⟨?_, h.own, by rw [List.length_append]; omega, h.nc, h.lim, .inr ⟨g, rfl, hF, by rw [lay_len (by omega)]; exact hx, (set_ne (Ne.symm (h.ne hr)) _).trans hr2⟩, back_is h.is (by omega)⟩, by rw [hw2]; exact Fr.row hF _, hb2⟩
      rw [set_at (hb2.trans h.blk)]
      simp [Nat.add_assoc]
set_option maxHeartbeats 1000000 in
set_option maxRecDepth 100000 in
theorem pushBack_call {F : Nat → Prop} {b : Nat} {l m : List El} {v : Value} {w : World} (h : DQ F b l w) (hm : SL (fun k => ¬ F k) w v m) (hs : (2 * (l.length + m.length) + l.length) * 16 ≤ 281474976710656) :
    Calls Tryz.prog 162 #[ptr b, v] w fun e w' => e = .returned (.tuple #[]) ∧ DQ (Gr F w) b (l ++ m) w' ∧ Fr F w w' := by
  have HF := hid_of (free_call h 0 m.length 0 (m.length : Int) rfl rfl (by omega))
  obtain ⟨am, cm, rfl, hcm, hrm⟩ := hm
  have HM := hid_of hrm
  have bm : m.length ≤ 281474976710656 := by omega
  clear h hrm hcm hs
  go_enter Tryz.func162, Tryz.ntmps162
  go_wp2_with fail
  refine HF.out.mono ?_
  rintro e w1 ⟨rfl, ⟨a, n, c, f, xs, k, hx, hy⟩, fr⟩
  have c0 : w1.cell? ⟨b, 0, none⟩ = some (.slice a n c) := k.cell 0
  obtain ⟨t, HT⟩ : ∃ t, Hid (t = f + l.length) := ⟨_, hid_of rfl⟩
  have c2 : w1.cell? ⟨b, 2, none⟩ = some (.int .i64 (t : Int)) := by rw [HT.out]; exact k.cell 2
  have ht : t ≤ n := by rw [HT.out]; exact k.fit
  have hn := k.lim
  have hcut := cut_lo a n c t (t : Int) rfl ht
  obtain ⟨W2, xs', hcp, k2, f2, hb2⟩ := copy_back (w := w1.drewN 1) (DK.drewN k 1) (cm := cm) (rd_fr HM.out (fr.drewN 1)) hy
  rw [← HT.out] at hcp k2
  have hcp1 : ∀ ty, (Builtin.copy_ #[22, 22] ty #[.slice (ca a c t) (n - t) (c - t), .slice am m.length cm]).run Tryz.prog w1.drew = .ok (goInt m.length) W2 := hcp
  have q0 := hb2.trans k.blk
  have d2 : W2.cell? ⟨b, 2, none⟩ = some (.int .i64 (t : Int)) := by rw [HT.out]; exact Lib.cell_of_heap q0 2
  have z2 : W2.frozen? ⟨b, 2, none⟩ = false := Lib.frozen_of_heap q0 2
  have hw : IntKind.i64.wrap ((t : Int) + (m.length : Int)) = (t : Int) + (m.length : Int) := IntWalk.i64_in _ (by omega)
  have hF : Fr F w W2 := (fr.drewN 1).trans f2
  have K := hid_of (And.intro k2 (hF.trans (Fr.set (i := 2) (k.own) (.int .i64 ((t + m.length : Nat) : Int)))))
  clear k fr k2 f2 hb2 q0 hcp hF hx hy
  go_wp2_with fail
  go_region
  all_goals
    go_end0
    obtain ⟨r1, r2⟩ := K.out
    rw [show ((t + m.length : Nat) : Int) = (t : Int) + (m.length : Int) by simp] at r1 r2
    exact ⟨rfl, ⟨_, _, _, _, _, r1⟩, r2⟩
end Go.Proofs.YtpibeabokedpdaaGreatDoor.DqSPush
end
section
namespace Go.Proofs.YtpibeabokedpdaaGreatDoor.DqSKeep
open Go.RowKit
open Go.Proofs.YtpibeabokedpdaaGreatDoor.DqSBase
open Go.Proofs.YtpibeabokedpdaaGreatDoor.DqBase (Fr Gr ptr hid_of lt_of set_at set_ne size_set row_ne size_row add_off bel_drewN ca ca_some ca_zero cell_lt)
open Go.Proofs.YtpibeabokedpdaaGreatDoor.DqSHeld
open Go.Proofs.YtpibeabokedpdaaGreatDoor.DqSLay
open Go.Proofs.YtpibeabokedpdaaGreatDoor.DqSFree
open Go.Proofs.YtpibeabokedpdaaGreatDoor.DqSPush
set_option linter.unusedVariables false
set_option linter.unusedSimpArgs false
/-- a count that is neither below 0 nor past what there is -/
def clamp (x : Int) (k : Nat) : Nat := if x < 0 then 0 else if (k : Int) < x then k else x.toNat
theorem clamp_le (x : Int) (k : Nat) : clamp x k ≤ k := by unfold clamp; split <;> (try split) <;> omega
theorem ret_int {k : IntKind} {a b : Int} (h : a = b) : Ending.returned (.int k a) = .returned (.int k b) := by rw [h]
theorem within_call (x : Int) (k : Nat) (w : World) : Calls Tryz.prog 182 #[.int .i64 x, .int .i64 (k : Int)] w fun e w' => e = .returned (.int .i64 ((clamp x k : Nat) : Int)) ∧ w' = w := by
  have e0 : min (max x 0) (k : Int) = ((clamp x k : Nat) : Int) := by unfold clamp; split <;> (try split) <;> omega
  have H := hid_of e0
  clear e0
  go_enter Tryz.func182, Tryz.ntmps182
  go_wp2
  all_goals
    go_ret
    exact ⟨ret_int (by have := H.out; (try (split at *)) <;> omega), rfl⟩
theorem zero9 (w : World) : (zeroValue 9).run Tryz.prog w = .ok (V Z) w := by kernel_rfl
theorem zcells (k : Nat) : (Builtin.zeroCells (V Z).cells k).toList = (List.replicate k Z).map V := by
  rw [zeros_cells]; simp [cells]
/-- clear -/
theorem clear_run {w : World} {g : Nat} {xs : List El} (hr : RowIs w g xs) {d : Option Addr} {o k dc : Nat} (hd : 0 < k → d = some ⟨g, o, none⟩) (ho : o + k ≤ xs.length) :
    ∃ w', (∀ ty, (Builtin.clear_ #[22] ty #[.slice d k dc]).run Tryz.prog w = .ok (.tuple #[]) w') ∧ RowIs w' g (lay xs o (List.replicate k Z)) ∧ ∃ cs, w' = w.setRow g cs := by
  rcases Nat.eq_zero_or_pos k with rfl | hp
  · refine ⟨w, fun ty => ?_, by simpa [lay] using hr, cells xs, (setRow_self w g _ 9 (0, 0) hr).symm⟩
    cases d <;> simp [Builtin.clear_, run_underlying Tryz.underlying22]
  · rw [hd hp]
    refine ⟨_, fun ty => ?_, hr.lay o (List.replicate k Z), _, rfl⟩
    obtain ⟨m, rfl⟩ : ∃ m, k = m + 1 := ⟨k - 1, by omega⟩
    have hst := run_storeCells_at Tryz.prog g o 9 ((List.replicate (m + 1) Z).map V) 0 (cells xs) w hr (by rw [List.length_map, List.length_replicate, cells_size]; omega) (fun v hv => by
      obtain ⟨x, _, rfl⟩ := List.mem_map.1 hv
      rfl)
    simp only [Nat.add_zero] at hst
    have hz := zcells (m + 1)
    have hz2 : (Builtin.zeroCells (V Z).cells (m + 1)).toList = (Builtin.zeroCells (Value.string ⟨#[]⟩).cells (m + 1)).toList := rfl
    simp [Builtin.clear_, run_underlying Tryz.underlying22, zero9]
    rw [← hz2, hz, hst]
    simp
theorem lay_before {xs : List El} {o : Nat} {cs : List El} {k : Nat} (h : k < o) (ho : o ≤ xs.length) : (lay xs o cs)[k]? = xs[k]? := by
  unfold lay
  rw [List.append_assoc, List.getElem?_append_left (by simp; omega), List.getElem?_take_of_lt h]
theorem lay_behind {xs : List El} {o : Nat} {cs : List El} {k : Nat} (h : o + cs.length ≤ k) (ho : o + cs.length ≤ xs.length) : (lay xs o cs)[k]? = xs[k]? := by
  unfold lay
  rw [List.getElem?_append_right (by simp; omega), List.getElem?_drop]
  congr 1
  simp
  omega
/-- a part of what stands there -/
theorem part_is {xs ys l : List El} {f i j : Nat} (h : (xs.drop f).take l.length = l) (hj : j ≤ l.length) (hy : ∀ k, f + i ≤ k → k < f + j → ys[k]? = xs[k]?) : (ys.drop (f + i)).take ((l.drop i).take (j - i)).length = (l.drop i).take (j - i) := by
  apply List.ext_getElem?
  intro k
  have hL : ((l.drop i).take (j - i)).length = j - i := by simp; omega
  rw [hL, List.getElem?_take, List.getElem?_take]
  by_cases q : k < j - i
  · rw [if_pos q, if_pos q, List.getElem?_drop, List.getElem?_drop, hy _ (by omega) (by omega), ← h, List.getElem?_take, if_pos (by omega), List.getElem?_drop]
    congr 1
    omega
  · rw [if_neg q, if_neg q]
/-- the two clears of keep: of what is ahead, of what is behind -/
theorem two_clears {F : Nat → Prop} {b : Nat} {a : Option Addr} {n c f : Nat} {xs l : List El} {w : World} (h : DK F b a n c f xs l w) {i j : Nat} (hij : i ≤ j) (hj : j ≤ l.length) :
    ∃ W1 W2 ys, (∀ ty, (Builtin.clear_ #[22] ty #[.slice (ca a c f) i (c - f)]).run Tryz.prog w = .ok (.tuple #[]) W1) ∧ (∀ ty, (Builtin.clear_ #[22] ty #[.slice (ca (ca a c f) (c - f) j) (l.length - j) (c - f - j)]).run Tryz.prog W1 = .ok (.tuple #[]) W2) ∧
      W2.heap[b]? = w.heap[b]? ∧ Fr F w W2 ∧ ((a = none ∧ c = 0) ∨ ∃ g, a = some ⟨g, 0, none⟩ ∧ F g ∧ ys.length = c ∧ RowIs W2 g ys) ∧ ∀ k, f + i ≤ k → k < f + j → ys[k]? = xs[k]? := by
  have h1 := h.fit
  have h2 := h.nc
  rcases h.row with ⟨rfl, rfl⟩ | ⟨g, rfl, hF, hx, hr⟩
  · have e1 : i = 0 := by omega
    have e2 : l.length - j = 0 := by omega
    subst e1
    refine ⟨w, w, xs, fun ty => ?_, fun ty => ?_, rfl, Fr.refl _ _, .inl ⟨rfl, rfl⟩, fun _ _ _ => rfl⟩
    · generalize ca none 0 f = d
      cases d <;> simp [Builtin.clear_, run_underlying Tryz.underlying22]
    · rw [e2]
      generalize ca (ca none 0 f) (0 - f) j = d
      cases d <;> simp [Builtin.clear_, run_underlying Tryz.underlying22]
  · obtain ⟨W1, k1, r1, cs1, q1⟩ := clear_run (d := ca (some ⟨g, 0, none⟩) c f) (o := f) (k := i) (dc := c - f) hr (fun _ => by rw [ca_some _ _ _ _ (by omega), Nat.zero_add]) (by omega)
    have l1 : (lay xs f (List.replicate i Z)).length = c := by rw [lay_len (by simp; omega)]; exact hx
    obtain ⟨W2, k2, r2, cs2, q2⟩ := clear_run (d := ca (ca (some ⟨g, 0, none⟩) c f) (c - f) j) (o := f + j) (k := l.length - j) (dc := c - f - j) r1 (fun _ => by rw [ca_some _ _ _ _ (by omega), ca_some _ _ _ _ (by omega), Nat.zero_add]) (by omega)
    have nb := h.ne hr
    refine ⟨W1, W2, _, k1, k2, by rw [q2, row_ne nb, q1, row_ne nb], ?_, .inr ⟨g, rfl, hF, by rw [lay_len (by simp; omega)]; exact l1, r2⟩, fun k hk1 hk2 => ?_⟩
    · rw [q2, q1]
      exact (Fr.row hF _).trans (Fr.row (.inl hF) _)
    · rw [lay_before (by omega) (by omega), lay_behind (by simp; omega) (by simp; omega)]
set_option maxHeartbeats 2000000 in
set_option maxRecDepth 100000 in
theorem keep_call {F : Nat → Prop} {b : Nat} {l : List El} {w : World} (h : DQ F b l w) (i j : Nat) (X Y : Int) (hX : X = i) (hY : Y = j) (hij : i ≤ j) (hj : j ≤ l.length) :
    Calls Tryz.prog 136 #[ptr b, .int .i64 X, .int .i64 Y] w fun e w' => e = .returned (.tuple #[]) ∧ DQ (Gr F w) b ((l.drop i).take (j - i)) w' ∧ Fr F w w' := by
  obtain ⟨a, n, c, f, xs, h⟩ := h
  have H := hid_of (held_call h)
  have HD := hid_of h
  have h1 := h.fit
  have h2 := h.nc
  have h3 := h.lim
  obtain ⟨L, HL⟩ : ∃ L, Hid (L = l.length) := ⟨_, hid_of rfl⟩
  have hcut1 := cut_hi (ca a c f) l.length (c - f) i X hX (by omega)
  have hcut2 := cut_lo (ca a c f) l.length (c - f) j Y hY hj
  obtain ⟨p, HP⟩ : ∃ p, Hid (p = f + i) := ⟨_, hid_of rfl⟩
  obtain ⟨q, HQ⟩ : ∃ q, Hid (q = f + j) := ⟨_, hid_of rfl⟩
  have eP : (f : Int) + X = (p : Int) := by rw [HP.out, hX]; simp
  have eQ : (f : Int) + Y = (q : Int) := by rw [HQ.out, hY]; simp
  have bX : 0 ≤ X ∧ X ≤ 35184372088832 := by omega
  have bY : 0 ≤ Y ∧ Y ≤ 35184372088832 := by omega
  obtain ⟨bX1, bX2⟩ := bX
  obtain ⟨bY1, bY2⟩ := bY
  have bf : f ≤ 35184372088832 := by omega
  have wP : IntKind.i64.wrap ((f : Int) + X) = (f : Int) + X := IntWalk.i64_in _ (by omega)
  have wQ : IntKind.i64.wrap ((f : Int) + Y) = (f : Int) + Y := IntWalk.i64_in _ (by omega)
  have B := hid_of (And.intro h1 (And.intro h2 (And.intro h3 (And.intro hij hj))))
  clear h h1 h2 hij hj hX hY
  go_enter Tryz.func136, Tryz.ntmps136
  go_wp2_with fail
  refine H.out.mono ?_
  rintro e w1 ⟨rfl, m, rfl⟩
  obtain ⟨W1, W2, ys, k1, k2, kb, kf, kr, ky⟩ := two_clears (DK.drewN HD.out m) B.out.2.2.2.1 B.out.2.2.2.2
  have q0 := kb.trans HD.out.blk
  have c0 : W2.cell? ⟨b, 0, none⟩ = some (.slice a n c) := Lib.cell_of_heap q0 0
  have c1 : W2.cell? ⟨b, 1, none⟩ = some (.int .i64 (f : Int)) := Lib.cell_of_heap q0 1
  have c2 : W2.cell? ⟨b, 2, none⟩ = some _ := Lib.cell_of_heap q0 2
  have z1 : W2.frozen? ⟨b, 1, none⟩ = false := Lib.frozen_of_heap q0 1
  have z2 : W2.frozen? ⟨b, 2, none⟩ = false := Lib.frozen_of_heap q0 2
  obtain ⟨W3, HW3⟩ : ∃ W3, Hid (((W2.setCell ⟨b, 1, none⟩ (.int .i64 (p : Int))).setCell ⟨b, 2, none⟩ (.int .i64 (q : Int))).drew = W3) := ⟨_, hid_of rfl⟩
  have hdk : DK F b a n c p ys ((l.drop i).take (j - i)) W3 := by
    obtain ⟨h1, h2, h3, hij, hj⟩ := B.out
    have hL : ((l.drop i).take (j - i)).length = j - i := by simp; omega
    rw [← HW3.out]
    refine ⟨?_, HD.out.own, by rw [hL, HP.out]; omega, h2, h3, ?_, by rw [HP.out]; exact part_is HD.out.is hj ky⟩
    · show ((W2.setCell ⟨b, 1, none⟩ _).setCell ⟨b, 2, none⟩ _).heap[b]? = _
      rw [set_at (set_at q0 _) _, hL, show p + (j - i) = q by rw [HP.out, HQ.out]; omega]
      simp
    · rcases kr with r | ⟨g, e, hF, hx, hr⟩
      · exact .inl r
      · have nb : g ≠ b := by
          rintro rfl
          rw [show W2.heap[g]? = _ from hr] at q0
          injection q0 with q0
          injection q0 with _ q0
          exact absurd q0 (by decide)
        refine .inr ⟨g, e, hF, hx, ?_⟩
        show ((W2.setCell ⟨b, 1, none⟩ _).setCell ⟨b, 2, none⟩ _).heap[g]? = _
        rw [set_ne nb, set_ne nb]
        exact hr
  have hfr : Fr F w W3 := by
    rw [← HW3.out]
    have f0 : Fr F w W2 := ⟨kf.os, kf.tape, kf.output, kf.size, kf.block⟩
    exact ((f0.trans (Fr.set (.inl HD.out.own) _)).trans (Fr.set (.inl HD.out.own) _)).drew
  obtain ⟨M, HM⟩ : ∃ M, Hid (M = ((l.drop i).take (j - i)).length) := ⟨_, hid_of rfl⟩
  have hM : M ≤ 35184372088832 := by have := B.out; rw [HM.out]; simp; omega
  have HN := hid_of (fun k => len_call (DQ.drewN ⟨_, _, _, _, _, hdk⟩ k))
  have HLay := hid_of (fun k (hq : M ≤ 4398046511104) => lay_call (DQ.drewN ⟨_, _, _, _, _, hdk⟩ k) M (by rw [← HM.out]; omega))
  rw [← HM.out] at HN
  have d0 : W3.cell? ⟨b, 0, none⟩ = some (.slice a n c) := hdk.cell 0
  have K := hid_of (And.intro hdk hfr)
  have w8 : IntKind.i64.wrap ((M : Int) + 8) = (M : Int) + 8 := IntWalk.i64_in _ (by omega)
  have w9 : IntKind.i64.wrap (8 * ((M : Int) + 8)) = 8 * ((M : Int) + 8) := IntWalk.i64_in _ (by omega)
  clear kb kf kr ky hdk hfr q0
  go_wp2_with (first | simp only [k1] | simp only [k2])
  clear k1 k2 d0
  go_region
  rw [HW3.out]
  clear c0 c1 c2 z1 z2 HW3
  have d0 : W3.cell? ⟨b, 0, none⟩ = some (.slice a n c) := K.out.1.cell 0
  by_cases g1 : 8 * ((M : Int) + 8) < (n : Int)
  · have g2 : decide (8 * ((M : Int) + 8) < (n : Int)) = true := by simpa using g1
    go_wp2_with fail
    go_quiet (first | exact Calls.quiet_of (HN.out _))
    go_wp2_with fail
    refine (HN.out _).mono ?_
    rintro e w5 ⟨rfl, m5, rfl⟩
    go_wp2_with fail
    refine (HLay.out (nq + m5) (by omega)).mono ?_
    rintro e w6 ⟨rfl, ⟨a', c', xs', k⟩, fr⟩
    have K2 := hid_of (And.intro k fr)
    clear k fr
    go_wp2_with fail
    go_end0
    obtain ⟨r1, r2⟩ := K2.out
    have f2 := K.out.2
    refine ⟨rfl, ⟨_, _, _, _, _, r1.mono fun k hk e => ?_⟩, ?_⟩
    · rcases e with e | e
      · exact .inl e
      · exact .inr (Nat.le_trans f2.size e)
    · exact f2.trans ⟨r2.os, r2.tape, r2.output, r2.size, fun k hk hn => r2.block k hk fun e => hn (.inl e)⟩
  · have g2 : decide (8 * ((M : Int) + 8) < (n : Int)) = false := by simpa using g1
    go_wp2_with fail
    go_quiet (first | exact Calls.quiet_of (HN.out _))
    go_wp2_with fail
    go_end0
    exact ⟨rfl, ⟨_, _, _, _, _, DK.up (DK.drewN K.out.1 nq) w⟩, K.out.2.drewN nq⟩
end Go.Proofs.YtpibeabokedpdaaGreatDoor.DqSKeep
end
