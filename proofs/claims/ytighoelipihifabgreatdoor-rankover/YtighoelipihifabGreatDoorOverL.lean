/- The law RankOver. -/
import Derived.Test.YtighoelipihifabGreatDoorOverM
import Derived.Test.YtighoelipihifabGreatDoorOverN
import Derived.Test.YtighoelipihifabGreatDoorTwin
import Derived.Test.YtighoelipihifabGreatDoorRef1
import Derived.Test.YtighoelipihifabGreatDoorSure
namespace Go.Proofs.YtighoelipihifabGreatDoor.OverL
open Go.RowKit Go.Maps Go.Sort Go.Shelf
open Go.Proofs.YtighoelipihifabGreatDoor.MapMath
open Go.Proofs.YtighoelipihifabGreatDoor.RankMath
open Go.Proofs.YtighoelipihifabGreatDoor.RankMath2
open Go.Proofs.YtighoelipihifabGreatDoor.RankMath3
open Go.Proofs.YtighoelipihifabGreatDoor.Base
open Go.Proofs.YtighoelipihifabGreatDoor.Rank1
open Go.Proofs.YtighoelipihifabGreatDoor.Run
open Go.Proofs.YtighoelipihifabGreatDoor.Seek
open Go.Proofs.YtighoelipihifabGreatDoor.Names
open Go.Proofs.YtighoelipihifabGreatDoor.Of
open Go.Proofs.YtighoelipihifabGreatDoor.Twin
open Go.Proofs.YtighoelipihifabGreatDoor.Ref1
open Go.Proofs.YtighoelipihifabGreatDoor.Sure
open Go.Proofs.YtighoelipihifabGreatDoor.OverA
open Go.Proofs.YtighoelipihifabGreatDoor.OverM
open Go.Proofs.YtighoelipihifabGreatDoor.Parse (Has)
set_option linter.unusedVariables false
set_option linter.unusedSimpArgs false
attribute [local go_sem] Oper.semAt_some
theorem eqP (a : Nat) (w : World) : (binOp .eql 23 (.pointer (some ⟨a, 0, none⟩)) (.pointer none)).run Tryz.prog w = .ok (.bool false) w := by kernel_rfl
theorem ne_nilF (w : World) (B : Nat) : (binOp .eql 40 (.func (.func 33) #[] #[.pointer (some ⟨B, 0, none⟩)]) .nilFunc).run Tryz.prog w = .ok (.bool false) w := by kernel_rfl
theorem slS_all (l : EL) : slS l 0 (-1) false = l := by
  have e1 : fromS l.length 0 = 0 := by unfold fromS; rw [if_neg (by decide)]
  have e2 : toS l.length (-1) = (l.length : Int) - 1 := by unfold toS; rw [if_pos (by decide)]; omega
  unfold slS
  rw [e1, e2]
  by_cases h : l = []
  · subst h; rfl
  · have hp : 0 < l.length := List.length_pos_iff.2 h
    rw [if_neg (show ¬ (l.length : Int) - 1 < 0 by omega)]
    unfold runS way
    rw [if_neg (by decide), show ((l.length : Int) - 1 - 0 + 1).toNat = l.length by omega]
    simp
theorem share5 {α β γ δ ε : Type} {Goal : Prop} {P G : α → β → γ → δ → ε → Prop} (hmain : (∀ a b c d e, P a b c d e → G a b c d e) → Goal) (hrest : ∀ a b c d e, P a b c d e → G a b c d e) : Goal := hmain hrest
set_option maxHeartbeats 20000000 in
set_option maxRecDepth 100000 in
theorem over_yes (v : Value) (l : EL) (lv : Int) (w : World) (h : FS w v l) (hA : AllMay l) (hU : Uq l) (hlv : -9223372036854775808 ≤ lv ∧ lv ≤ 9223372036854775807) (hn : l.length ≤ 5864062014634) (hk : ∀ p ∈ l, p.1.length ≤ 140737488355328) (hh : Has w) : Calls Tryz.prog 4 #[v, .int .i64 lv] w fun e w' => e = .returned (.bool true) ∧ Below w.heap.size w w' := by
  obtain ⟨i0, hi0, hz0, hz1, hz2⟩ := parts_of info_sc
  have hbig : l.length ≤ big := Nat.le_trans hn (by decide)
  have hn9 : l.length ≤ 5864062014634 := hn
  have HF := hid_of h
  have HH := hid_of hh
  have HK := hid_of hk
  have bL : Below w.heap.size w (w.alloc (.cells #[.int .i64 lv] 3)) := bnew w _
  have BL := hid_of bL
  have HL : Hid ((w.alloc (.cells #[.int .i64 lv] 3)).heap[w.heap.size]? = some (.cells #[.int .i64 lv] 3 (0, 0))) := hid_of (heap_alloc_new w _)
  have H1 := hid_of (twin_call v l _ (h.below bL) hbig)
  have H8 := hid_of sure_call
  obtain ⟨a, c, rfl, hc, h'⟩ := h
  clear h' hk hh bL
  refine (callsIn_wide (n := 5)).1 ?_
  refine callsIn_of_wp_marks Tryz.func4 rfl trivial ?_ rfl
  simp only [Tryz.ntmps4, List.size_toArray, List.length_cons, List.length_nil, Nat.reduceAdd, Nat.reduceSub, Array.replicate_succ, Array.replicate_zero, List.push_toArray, List.append_toArray, List.nil_append, List.cons_append]
  gi_wp2_with fail
  refine ⟨trivial, callsIn_wide.2 (H1.out.mono ?_)⟩
  rintro e w1 ⟨v1, rfl, o1, b1⟩
  have H2 := hid_of (of_call v1 l w1 (fs_row o1) hbig HK.out)
  have B1 := hid_of (And.intro b1 (Base.bel BL.out b1 (Nat.le_refl _)))
  clear o1 b1 H1
  gi_wp2_with fail
  refine ⟨trivial, callsIn_wide.2 (H2.out.mono ?_)⟩
  rintro e w2 ⟨b2, ⟨hA2, _⟩ | ⟨_, hU2, _⟩ | ⟨_, _, b, rfl, rk⟩⟩
  · exact absurd hA hA2
  · exact absurd hU hU2
  have B2 := hid_of (And.intro b2 (Base.bel B1.out.2 b2 (Nat.le_refl _)))
  have R2 := hid_of rk
  have H3 := hid_of fun (W : World) (k : Below w2.heap.size w2 W) => rof_call (.slice a l.length c) l W ((HF.out.below B2.out.2).below k) hbig
  have qP := eqP b
  clear b2 rk H2
  unfold ptr
  gi_wp2_with fail
  have bb2 : Below w2.heap.size w2 (w2.alloc (.cells #[.pointer (some ⟨b, 0, none⟩)] 23)) := bnew w2 _
  have hr2 : (w2.alloc (.cells #[.pointer (some ⟨b, 0, none⟩)] 23)).heap[w2.heap.size]? = some (.cells #[.pointer (some ⟨b, 0, none⟩)] 23 (0, 0)) := heap_alloc_new w2 _
  refine ⟨trivial, callsIn_wide.2 ((H3.out _ bb2).mono ?_)⟩
  rintro e w3 ⟨b3, ⟨hA2, _⟩ | ⟨_, hU2, _⟩ | ⟨_, _, v3, rfl, o3⟩⟩
  · exact absurd hA hA2
  · exact absurd hU hU2
  obtain ⟨L, hLd⟩ : ∃ L, L = srtL l := ⟨_, rfl⟩
  have hLl : L.length = l.length := by rw [hLd]; exact srtL_len l
  have hLb : L.length ≤ big := by rw [hLl]; exact hbig
  have hLn : ∀ p ∈ L, p.1.length ≤ 140737488355328 := fun p hp => HK.out p (by rw [hLd] at hp; exact (srtL_perm l).mem_iff.1 hp)
  have hL9 : L.length ≤ 5864062014634 := by omega
  rw [← hLd] at o3 R2
  clear hLd hLl
  have E3 : Hid (w3.heap[w2.heap.size]? = some (.cells #[ptr b] 23 (0, 0)) ∧ w3.heap[w.heap.size]? = some (.cells #[.int .i64 lv] 3 (0, 0)) ∧ RK w1.heap.size b L w3 ∧ OR 0 w3 v3 L ∧ Below w.heap.size w w3 ∧ w2.heap.size + 1 ≤ w3.heap.size) := by
    have b23 : Below w2.heap.size w2 w3 := Base.bel bb2 b3 (Nat.le_refl _)
    have hw1 := B1.out.1.size
    have hs : (w2.alloc (.cells #[.pointer (some ⟨b, 0, none⟩)] 23)).heap.size = w2.heap.size + 1 := by simp
    have hl1 : w1.heap[w.heap.size]? = some (.cells #[.int .i64 lv] 3 (0, 0)) := (B1.out.1.block _ (by simp)).trans HL.out
    have hl2 := (B2.out.1.block _ (lt_of hl1)).trans hl1
    exact ⟨(b3.block _ (by rw [hs]; omega)).trans hr2, (b23.block _ (lt_of hl2)).trans hl2, R2.out.below b23, row_mono o3 (Nat.zero_le _), Base.bel B2.out.2 b23 (Nat.le_refl _), by have := b3.size; rw [hs] at this; exact this⟩
  have cR3 : w3.cell? ⟨w2.heap.size, 0, none⟩ = some (.pointer (some ⟨b, 0, none⟩)) := Lib.cell_of_heap E3.out.1 0
  have H4 := hid_of (all_call E3.out.2.2.1 hLb)
  obtain ⟨a3, c3, hv3, _⟩ := id (fs_row o3)
  subst hv3
  have HWB : Hid (w.heap.size ≤ w1.heap.size ∧ w1.heap.size ≤ w2.heap.size) := hid_of ⟨B1.out.2.size, B2.out.1.size⟩
  clear bb2 hr2 b3 o3 H3 R2 HL BL B1 B2
  unfold ptr at H4
  gi_wp2_with fail
  refine ⟨trivial, callsIn_wide.2 (H4.out.mono ?_)⟩
  rintro e w4 ⟨Bx, vF, rfl, hx4, hBx, o4, b4⟩
  have E4 : Hid (w4.heap[w2.heap.size]? = some (.cells #[ptr b] 23 (0, 0)) ∧ w4.heap[w.heap.size]? = some (.cells #[.int .i64 lv] 3 (0, 0)) ∧ RK w1.heap.size b L w4 ∧ OR 0 w4 (.slice a3 L.length c3) L ∧ Below w.heap.size w w4 ∧ w4.heap[Bx]? = some (.cells #[vF] 22 (0, 0)) ∧ OR 0 w4 vF L) :=
    ⟨(b4.block _ (lt_of E3.out.1)).trans E3.out.1, (b4.block _ (lt_of E3.out.2.1)).trans E3.out.2.1, E3.out.2.2.1.below b4, row_below E3.out.2.2.2.1 b4, Base.bel E3.out.2.2.2.2.1 b4 (Nat.le_refl _), hx4, row_mono o4 (Nat.zero_le _)⟩
  have hne := ne_nilF
  have H5 := hid_of fun (W : World) (k : Below w4.heap.size w4 W) => list_call (E4.out.2.2.1.below k) hLb
  have H6 := hid_of fun (W : World) (k : Below w4.heap.size w4 W) => slice_call (E4.out.2.2.1.below k) 0 (-1) false hLb (by decide) (by decide) (by decide) (by decide)
  rw [slS_all] at H6
  have HcR : Hid (∀ W, Below w4.heap.size w4 W → W.cell? ⟨w2.heap.size, 0, none⟩ = some (.pointer (some ⟨b, 0, none⟩))) := hid_of fun W k => cell_on k (Lib.cell_of_heap E4.out.1 0)
  have cR4 : w4.cell? ⟨w2.heap.size, 0, none⟩ = some (.pointer (some ⟨b, 0, none⟩)) := HcR.out w4 (Below.refl _ _)
  have kd4 : Below w4.heap.size w4 w4.drew := (Below.refl _ w4).drew
  have KD4 := hid_of kd4
  clear hx4 hBx o4 b4 H4 E3 cR3 kd4
  unfold ptr at H5 H6
  gi_wp2_with fail
  apply share5 (P := fun (aa : Option Addr) (ca' : Nat) (ab : Option Addr) (cb : Nat) (W : World) => Hid (OR w4.heap.size W (.slice aa L.length ca') L ∧ OR w4.heap.size W (.slice ab L.length cb) L ∧ Below w4.heap.size w4 W))
  case hmain =>
    intro HR
    refine Code.wpIn_mono (calm_le _) ?_
    gi_region_with (first
      | (refine ⟨trivial, ?_⟩; gi_at_call 9; refine (callsIn_wide.2 (H5.out _ KD4.out)).mono ?_; rintro e w5 ⟨va, rfl, oa, ba⟩; obtain ⟨aa, ca', hva, _⟩ := id (fs_row oa); subst hva; have k5 : Below w4.heap.size w4 w5 := Base.bel KD4.out ba (Nat.le_refl _); have cR5 := HcR.out w5 k5)
      | (refine ⟨trivial, ?_⟩; gi_at_call 14; refine (callsIn_wide.2 (H6.out _ k5)).mono ?_; rintro e w6 ⟨vb, rfl, ob, bb⟩; obtain ⟨ab, cb, hvb, _⟩ := id (fs_row ob); subst hvb))
    all_goals exact HR aa ca' ab cb w6 ⟨row_mono (row_below oa bb) KD4.out.size, row_mono ob k5.size, Base.bel k5 bb (Nat.le_refl _)⟩
  case hrest =>
    intro aa ca' ab cb w6 hP
    clear H5 H6 KD4 cR4
    have HcR2 := HcR
    have E6 := hid_of hP.out
    have HSp : Hid (Below w4.heap.size w4 w6 ∧ (L.length = 0 ∨ ∃ ga gb, aa = some ⟨ga, 0, none⟩ ∧ ab = some ⟨gb, 0, none⟩ ∧ Rm ga L.length w6 ∧ Rm gb L.length w6 ∧ w4.heap.size ≤ ga ∧ w4.heap.size ≤ gb)) := by
      refine hid_of ⟨E6.out.2.2, ?_⟩
      rcases Rm.of E6.out.1 rfl with h0 | ⟨ga, cx, e1, r1, g1⟩
      · exact .inl h0
      · rcases Rm.of E6.out.2.1 rfl with h0 | ⟨gb, cy, e2, r2, g2⟩
        · exact .inl h0
        · injection e1 with e1 _ _
          injection e2 with e2 _ _
          exact .inr ⟨ga, gb, e1, e2, r1, r2, g1, g2⟩
    clear hP E6
    unfold calm
    gi_wp2_with fail
    gi_loopw [12] (fun si wx => ∃ k : Nat, k ≤ L.length ∧ si = .int .i64 (k : Int) ∧ Hid (Below w4.heap.size w4 wx ∧ (L.length = 0 ∨ ∃ ga gb, aa = some ⟨ga, 0, none⟩ ∧ ab = some ⟨gb, 0, none⟩ ∧ Rm ga L.length wx ∧ Rm gb L.length wx ∧ w4.heap.size ≤ ga ∧ w4.heap.size ≤ gb))) (fun si wx => L.length - (intOf si).toNat)
    case atStart => exact ⟨0, by omega, rfl, HSp⟩
    case round =>
      obtain ⟨k, hk, rfl, HS⟩ := hrel
      by_cases hlt : k < L.length
      · obtain ⟨ga, gb, rfl, rfl, ra, rb, ha, hb⟩ : ∃ ga gb, aa = some ⟨ga, 0, none⟩ ∧ ab = some ⟨gb, 0, none⟩ ∧ Rm ga L.length wr ∧ Rm gb L.length wr ∧ w4.heap.size ≤ ga ∧ w4.heap.size ≤ gb := by
          rcases HS.out.2 with h | h
          · omega
          · exact h
        obtain ⟨⟨v0, r0⟩, z0⟩ := ra.cell (k * 2) (by omega)
        obtain ⟨⟨v1, r1⟩, z1⟩ := ra.cell (k * 2 + 1) (by omega)
        obtain ⟨W1, hW1⟩ : ∃ W1 : Value → Value → World, W1 = fun x y => (wr.setCell ⟨ga, k * 2, none⟩ x).setCell ⟨ga, k * 2 + 1, none⟩ y := ⟨_, rfl⟩
        have HB1 : Hid (∀ x y, Below w4.heap.size w4 (W1 x y) ∧ Rm ga L.length (W1 x y) ∧ Rm gb L.length (W1 x y)) := by
          rw [hW1]
          exact hid_of fun x y => ⟨(HS.out.1.setCell (p := ⟨ga, k * 2, none⟩) ha x).setCell (p := ⟨ga, k * 2 + 1, none⟩) ha y, (ra.set _ _).set _ _, (rb.set _ _).set _ _⟩
        have HN2 : Hid (∀ x y x' y', Below w4.heap.size w4 (((W1 x y).setCell ⟨gb, k * 2, none⟩ x').setCell ⟨gb, k * 2 + 1, none⟩ y') ∧ Rm ga L.length (((W1 x y).setCell ⟨gb, k * 2, none⟩ x').setCell ⟨gb, k * 2 + 1, none⟩ y') ∧ Rm gb L.length (((W1 x y).setCell ⟨gb, k * 2, none⟩ x').setCell ⟨gb, k * 2 + 1, none⟩ y')) := hid_of fun x y x' y' => ⟨((HB1.out x y).1.setCell (p := ⟨gb, k * 2, none⟩) hb x').setCell (p := ⟨gb, k * 2 + 1, none⟩) hb y', ((HB1.out x y).2.1.set _ _).set _ _, ((HB1.out x y).2.2.set _ _).set _ _⟩
        have e2 : IntKind.i64.wrap ((k : Int) + 1) = (k : Int) + 1 := IntWalk.i64_in _ (by omega)
        have g2 : (k : Int) < (L.length : Int) := by omega
        have Hab := hid_of (And.intro ha hb)
        have HCB : Hid (∀ x y, (∃ v, (W1 x y).cell? ⟨gb, k * 2, none⟩ = some v) ∧ (W1 x y).frozen? ⟨gb, k * 2, none⟩ = false ∧ (∃ v, (W1 x y).cell? ⟨gb, k * 2 + 1, none⟩ = some v) ∧ (W1 x y).frozen? ⟨gb, k * 2 + 1, none⟩ = false) := hid_of fun x y => ⟨((HB1.out x y).2.2.cell (k * 2) (by omega)).1, ((HB1.out x y).2.2.cell (k * 2) (by omega)).2, ((HB1.out x y).2.2.cell (k * 2 + 1) (by omega)).1, ((HB1.out x y).2.2.cell (k * 2 + 1) (by omega)).2⟩
        clear HS ra rb ha hb
        have hc := HCB.out (.string ⟨#[115, 112, 111, 105, 108, 116]⟩) (.int .i64 0)
        rw [hW1] at hc
        obtain ⟨⟨v2, r2⟩, z2, ⟨v3, r3⟩, z3⟩ := hc
        dsimp only at r2 z2 r3 z3
        gi_wp2_with fail
        go_roundw
        case rel => exact ⟨k + 1, by omega, by rw [show ((k + 1 : Nat) : Int) = (k : Int) + 1 from by omega], by
          have h := HN2.out (.string ⟨#[115, 112, 111, 105, 108, 116]⟩) (.int .i64 0) (.string ⟨#[115, 112, 111, 105, 108, 116, 32, 116, 111, 111]⟩) (.int .i64 0)
          rw [hW1] at h
          exact hid_of ⟨h.1, .inr ⟨ga, gb, rfl, rfl, h.2.1, h.2.2, Hab.out.1, Hab.out.2⟩⟩⟩
        case measure => simp [intOf]; omega
      · have gi : ¬ (k : Int) < (L.length : Int) := by omega
        have RKr := hid_of (RK.low E4.out.2.2.1 HS.out.1)
        have HPo := hid_of (pop_call RKr.out 2 true hLb (Nat.le_trans (Nat.le_trans HWB.out.2 (Nat.le_of_lt (lt_of E4.out.1))) HS.out.1.size))
        have HBr := hid_of HS.out.1
        have cRr : wr.cell? ⟨w2.heap.size, 0, none⟩ = some (.pointer (some ⟨b, 0, none⟩)) := HcR2.out wr HBr.out
        clear HS HSp hk hlt
        unfold ptr at HPo
        gi_wp2_with fail
        refine ⟨trivial, callsIn_wide.2 (HPo.out.mono ?_)⟩
        rintro e w7 ⟨v7, rfl, o7, r7, ev7⟩
        have hXl : (leftS L (clampS 2 L.length) true).length ≤ big := Nat.le_trans (by unfold leftS; rw [if_pos rfl, List.length_take]; omega) hLb
        have S7 : Hid (∃ m, Sv w w7.heap.size w.heap.size w2.heap.size Bx w1.heap.size b m lv vF (.slice a3 L.length c3) L w7) :=
          hid_of (sv_start E4.out HBr.out HWB.out.1 (Nat.le_trans (Nat.le_trans HWB.out.2 (Nat.le_of_lt (lt_of E4.out.1))) HBr.out.size) r7 ev7 hXl)
        obtain ⟨m, S7⟩ := S7.out
        have HS7 := hid_of S7
        obtain ⟨a7, c7, hv7, _⟩ := id (fs_row o7)
        subst hv7
        clear o7 r7 ev7 S7 HPo RKr hXl HBr cRr HcR HcR2 E4
        -- REST
        gi_wp2_with fail
        refine wpIn_loop_rounds 3 ?_
        rw [roundsIn_succ]
        gi_wp2_with fail
        obtain ⟨I8, s8⟩ := iv_start HS7.out [] (fun D hD => by cases hD) 0
        obtain ⟨Tb, hTb⟩ : ∃ Tb, Tb = w7.heap.size := ⟨_, rfl⟩
        obtain ⟨W8, hW8⟩ : ∃ W8, W8 = (w7.alloc (.cells #[.int .i64 0] 3)).alloc (.cells #[.slice none 0 0] 22) := ⟨_, rfl⟩
        rw [← hW8, ← hTb] at I8 s8
        have hF8 : FG (fun k => k = Bx ∨ vF.ownBlock = some k) W8 vF L := ⟨fs_row I8.sv.rF, fun g o n c e _ => .inr (by rw [e]; rfl)⟩
        have hG8 := kq_lt I8.sv
        have hIt := iter_stops 4 (by decide) (fun k => k = Bx ∨ vF.ownBlock = some k) Bx vF L W8 (by omega) (.inl rfl) (fun k hk => by have := hG8 k hk; omega) (Lib.cell_of_heap I8.sv.bx 0) hF8
        have hKb : ∀ (W : World) (q : Nat) (o o' : Obj), W8.heap.size ≤ q → W.heap[q]? = some o → o.isCells = false → o.isWalk = false → Kq (fun k => k = Bx ∨ vF.ownBlock = some k) W (W.putObj q o') := fun W q o o' hq => kq_put (fun k hk => by have := hG8 k hk; omega) W q o o' hq
        have HSW8 := hid_of s8
        have HIW8 := hid_of I8
        rw [← hW8, ← hTb]
        clear s8 hW8 hTb I8 hF8 hG8
        apply wpIn_rangeFunc_ownG (F := Fence.wide) (n := 5) (P := Tryz.prog) (w := W8) rfl (by decide) (gf := 33) (lb := #[.pointer (some ⟨Bx, 0, none⟩)]) rfl trivial (enters_of Tryz.func33 (by kernel_rfl) rfl) hIt kq_t hKb (Below.refl _ _) (fun _ => rfl)
          (fun pre W => Iv w w.heap.size w2.heap.size Bx w1.heap.size b m lv vF (.slice a3 L.length c3) L [] Tb (Tb + 1) 0 pre W ∧ ¬ (1 ≤ lv ∧ lv ≤ (pre.length : Int)))
          (fun c pre W => Iv w w.heap.size w2.heap.size Bx w1.heap.size b m lv vF (.slice a3 L.length c3) L [] Tb (Tb + 1) 0 pre W ∧ (c = .exit 4 ∧ (pre.length : Int) = lv))
          (OwnFrom.and (iv_own w w.heap.size w2.heap.size Bx w1.heap.size b m lv vF (.slice a3 L.length c3) L [] Tb (Tb + 1) 0 _ (by have := HSW8.out; omega)) (ownFrom_pure _ _))
          (fun c => OwnFrom.and (iv_own w w.heap.size w2.heap.size Bx w1.heap.size b m lv vF (.slice a3 L.length c3) L [] Tb (Tb + 1) 0 _ (by have := HSW8.out; omega)) (ownFrom_pure _ _))
          ⟨HIW8.out, by simp; omega⟩
        case hassign =>
          intro lp x W K hK
          unfold encF
          gi_wp2
          exact hK
        case hbody =>
          rintro lp pre x W ⟨hIv, hnb⟩ hpl
          have hpl' : pre.length < L.length := hpl
          have hxn := hLn x.1 x.2
          obtain ⟨vg, hg1, hg2⟩ := hIv.got
          have cG : W.cell? ⟨Tb + 1, 0, none⟩ = some vg := Lib.cell_of_heap hg1 0
          have hgs := hIv.gsz
          have hu := fs_lit W [x.1] (by simp)
          rw [show ([x.1].flatMap eCells).toArray = #[.string (mk x.1.1), .int .i64 x.1.2] from rfl] at hu
          obtain ⟨v', w3, hr, ho, hgr⟩ := append_fs (Tb + 1 + 1) (W.alloc (.cells #[.string (mk x.1.1), .int .i64 x.1.2] 35)) vg _ (pre.map (·.1)) [x.1] (row_below hg2 (bnew W _)) hu (by simp; omega) (by simp; omega)
          obtain ⟨hi1, hk1, hlow1, hG1⟩ := iv_step hIv x hg2 _ hgr ho
          have hG2 : (w3.setCell ⟨Tb + 1, 0, none⟩ v').heap[Tb + 1]? = some (.cells #[v'] 22 (0, 0)) := by
            have := set_at (i := 0) (hG1.trans hg1) v'
            simpa using this
          obtain ⟨ag, cg, hag, _⟩ := id (fs_row hg2)
          obtain ⟨an, cn, han, _⟩ := id (fs_row ho)
          rw [List.length_map] at hag
          rw [show (pre.map (·.1) ++ [x.1]).length = pre.length + 1 from by simp] at han
          have hrw0 : w3.cell? ⟨Tb + 1, 0, none⟩ = some vg := Lib.cell_of_heap (hG1.trans hg1) 0
          have hrw1 : w3.frozen? ⟨Tb + 1, 0, none⟩ = false := Lib.frozen_of_heap (hG1.trans hg1) 0
          have hrw2 : (w3.setCell ⟨Tb + 1, 0, none⟩ v').cell? ⟨w2.heap.size, 0, none⟩ = some (.pointer (some ⟨b, 0, none⟩)) := Lib.cell_of_heap hi1.sv.rc 0
          subst hag
          subst han
          have HIv := hid_of hIv
          have HI1 := hid_of hi1
          have HK1 := hid_of (And.intro hk1 hlow1)
          have HG2 := hid_of hG2
          have HXN := hid_of hxn
          obtain ⟨t', ml', X', rx', hX'⟩ := hi1.sv.rk
          have H14 := hid_of (drop2_call rx' x.1.1 hxn hX')
          have HX' := hid_of hX'
          unfold ptr at H14
          clear hIv hg1 hg2 hxn hgs hu ho hgr hi1 hk1 hlow1 hG1 hG2 hX' rx'
          generalize hX : mk x.1.1 = X at *
          generalize hY : x.1.2 = Y at *
          clear hX hY
          simp only [List.length_cons, List.length_nil, Nat.zero_add] at hr
          gi_wp2_with (first
            | (gi_at_builtin; refine wplIn_eq rfl _ _ 22 22 rfl (.slice ag pre.length cg) (.slice (some ⟨W.heap.size, 0, none⟩) 1 1) (.slice an (pre.length + 1) cn) _ w3 rfl rfl hr ?_; clear hr)
            | go_in)
          refine ⟨trivial, (CallsIn.inRound lp (callsIn_wide.2 H14.out)).mono ?_⟩
          rintro e w4' ⟨rfl, ⟨t2, ml2, rx2⟩, em⟩
          obtain ⟨hi4, hc4⟩ := iv_drop HI1.out em ⟨t2, ml2, _, rx2, Nat.le_trans (wout_len _ _) HX'.out⟩
          have hmlt : m < Tb := hi4.sv.ltZ.2.2.2.1
          have x1 : w4'.cell? ⟨Tb, 0, none⟩ = some (.int .i64 0) := Lib.cell_of_heap hi4.tb 0
          have x2 : w4'.cell? ⟨w.heap.size, 0, none⟩ = some (.int .i64 lv) := Lib.cell_of_heap hi4.sv.lc 0
          have x3 : w4'.cell? ⟨Tb + 1, 0, none⟩ = some (.slice an (pre.length + 1) cn) := Lib.cell_of_heap (hc4 _ _ _ _ HG2.out (by decide) (by decide)) 0
          have HKF : Hid (KeepsFrom W8.heap.size W w4') := hid_of (by rw [HSW8.out]; exact HK1.out.1.trans (EM.from em (by omega)))
          have HKP : Hid (Kq (fun k => k = Bx ∨ vF.ownBlock = some k) W w4') := hid_of (kq_em HIv.out.sv (fun k hk => HK1.out.2 k (by omega)) hc4)
          have HI4 := hid_of hi4
          have hlp : ((pre ++ [x]).length : Int) = (pre.length : Int) + 1 := by simp
          clear hi4 hc4 rx2 em H14 HG2 HI1 HK1 hmlt hrw0 hrw1 hrw2 HX' HXN
          by_cases heq : (pre.length : Int) + 1 = lv
          · have t1 : (((pre.length : Int) + 1) == lv) = true := by simpa using heq
            have HEQ := hid_of heq
            clear heq
            gi_wp2_with fail
            exact ⟨HKF.out, HI4.out, rfl, by rw [hlp]; exact HEQ.out⟩
          · have t1 : (((pre.length : Int) + 1) == lv) = false := by simpa using heq
            have HEQ := hid_of heq
            clear heq
            gi_wp2_with fail
            exact ⟨HKF.out, HKP.out, HI4.out, fun hc => hnb ⟨hc.1, by have := HEQ.out; have := hc.2; rw [hlp] at this; omega⟩⟩
        case' hdone =>
          rintro D xs W hD hxs ⟨hIv, hnb⟩ hK
          have hxl : xs.length = L.length := by rw [hxs, xs_len L L.length (Nat.le_refl _)]
          have hxm : xs.map (·.1) = L := by rw [hxs, xs_map, List.take_length]
          obtain ⟨vg, hg1, hg2⟩ := hIv.got
          rw [hxm] at hg2
          have hq : 0 < lv → ¬ lv ≤ (L.length : Int) := fun h1 h2 => hnb ⟨h1, by rw [hxl]; exact h2⟩
          have x1 : W.cell? ⟨Tb, 0, none⟩ = some (.int .i64 0) := Lib.cell_of_heap hIv.tb 0
          have x2 : W.cell? ⟨w.heap.size, 0, none⟩ = some (.int .i64 lv) := Lib.cell_of_heap hIv.sv.lc 0
          have x3 : W.cell? ⟨Tb + 1, 0, none⟩ = some vg := Lib.cell_of_heap hg1 0
          have H17 := hid_of (same_call vg _ L L W (fs_row hg2) (fs_row hIv.sv.rm) hLb hLb)
          rw [decide_eq_true (rfl : L = L)] at H17
          obtain ⟨ag, cg, hag, _⟩ := fs_row hg2
          subst hag
          have SV := hid_of hIv.sv
          have HDF := hid_of (And.intro hD hK)
          clear hIv hnb hg1 hg2 hxs hxl hxm hD hK hIt hKb
          rcases Int.lt_or_le 0 lv with q | q
          all_goals
            try (have q2 := hq q)
            clear hq
            gi_wp2_with fail
            refine ⟨trivial, callsIn_wide.2 (H17.out.mono ?_)⟩
            rintro e w8 hw8
            obtain ⟨rfl, b8⟩ := hw8
            have x4 := cell_on b8 x1
            have S8 := hid_of (SV.out.below b8)
            have HD8 : Hid (w8.heap[D]? = some (.deferred (some [])) ∧ W8.heap.size ≤ D) := hid_of ⟨(b8.block D (lt_of HDF.out.2)).trans HDF.out.2, HDF.out.1⟩
            clear b8 H17 x1 x2 x3
            gi_wp2_with fail
        case' hstop =>
          rintro D c pre W hD ⟨kk, hkk, hpre⟩ ⟨hIv, hc, hle⟩ hK
          have hxl : pre.length = kk + 1 := by rw [hpre, xs_len L (kk + 1) (by omega)]
          have hxm : pre.map (·.1) = L.take (kk + 1) := by rw [hpre, xs_map]
          have htl : (L.take (kk + 1)).length = kk + 1 := by rw [List.length_take]; omega
          obtain ⟨vg, hg1, hg2⟩ := hIv.got
          rw [hxm] at hg2
          have q1 : 0 < lv := by omega
          have q2 : lv ≤ (L.length : Int) := by omega
          have x1 : W.cell? ⟨Tb, 0, none⟩ = some (.int .i64 0) := Lib.cell_of_heap hIv.tb 0
          have x2 : W.cell? ⟨w.heap.size, 0, none⟩ = some (.int .i64 lv) := Lib.cell_of_heap hIv.sv.lc 0
          have x3 : W.cell? ⟨Tb + 1, 0, none⟩ = some vg := Lib.cell_of_heap hg1 0
          have hfm := fs_row hIv.sv.rm
          have hcc : L.length ≤ c3 := by
            obtain ⟨a9, c9, e9, h9, _⟩ := id hfm
            injection e9 with _ _ e9
            rw [e9]; exact h9
          have hcut := cut_hi a3 L.length c3 (kk + 1) (by omega)
          rw [show ((kk + 1 : Nat) : Int) = lv from by rw [← hle, hxl]] at hcut
          have fW := hfm.take (kk + 1) (by omega)
          have H17 : Hid (∀ W', Below W.heap.size W W' → Calls Tryz.prog 11 #[vg, .slice a3 (kk + 1) c3] W' fun e w' => e = .returned (.bool true) ∧ Below W'.heap.size W' w') := hid_of fun W' b' => by
            have := same_call vg (.slice a3 (kk + 1) c3) (L.take (kk + 1)) (L.take (kk + 1)) W' ((fs_row hg2).below b') (fW.below b') (by omega) (by omega)
            rw [decide_eq_true (rfl : L.take (kk + 1) = L.take (kk + 1))] at this
            exact this
          obtain ⟨ag, cg, hag, _⟩ := fs_row hg2
          rw [htl] at hag
          subst hag
          subst hc
          have SV := hid_of hIv.sv
          have HDF := hid_of (And.intro hD hK)
          have KDW : Hid (Below W.heap.size W W.drew) := hid_of (Below.refl _ W).drew
          clear hIv hg1 hg2 hxl hxm htl hD hK hIt hKb hle hpre fW hkk hfm hcc
          gi_wp2_with fail
          refine Code.wpIn_mono (calm_le _) ?_
          gi_region_with (first
            | (refine ⟨trivial, ?_⟩; gi_at_call 11; refine (callsIn_wide.2 (H17.out _ KDW.out)).mono ?_; rintro e w8 hw8; obtain ⟨rfl, b8⟩ := hw8))
          all_goals
            unfold calm
            have b9 : Below W.heap.size W w8 := KDW.out.trans (b8.mono KDW.out.size)
            have x4 := cell_on b9 x1
            have S8 := hid_of (SV.out.below b9)
            have HD8 : Hid (w8.heap[D]? = some (.deferred (some [])) ∧ W8.heap.size ≤ D) := hid_of ⟨(b9.block D (lt_of HDF.out.2)).trans HDF.out.2, HDF.out.1⟩
            clear b8 b9 H17 x1 x2 x3
            gi_wp2_with fail
        all_goals
          rw [roundsIn_succ]
          gi_wp2_with fail
          obtain ⟨I8, s8⟩ := iv_start S8.out [D] (fun D2 hD2 => by rw [List.mem_singleton.1 hD2]; exact HD8.out.1) 1
          obtain ⟨T2, hTb⟩ : ∃ T2, T2 = w8.heap.size := ⟨_, rfl⟩
          obtain ⟨W9, hW8⟩ : ∃ W9, W9 = (w8.alloc (.cells #[.int .i64 1] 3)).alloc (.cells #[.slice none 0 0] 22) := ⟨_, rfl⟩
          rw [← hW8, ← hTb] at I8 s8
          have hF8 : FG (fun k => k = Bx ∨ vF.ownBlock = some k) W9 vF L := ⟨fs_row I8.sv.rF, fun g o n c e _ => .inr (by rw [e]; rfl)⟩
          have hG8 := kq_lt I8.sv
          have hIt := iter_stops 4 (by decide) (fun k => k = Bx ∨ vF.ownBlock = some k) Bx vF L W9 (by omega) (.inl rfl) (fun k hk => by have := hG8 k hk; omega) (Lib.cell_of_heap I8.sv.bx 0) hF8
          have hKb : ∀ (W : World) (q : Nat) (o o' : Obj), W9.heap.size ≤ q → W.heap[q]? = some o → o.isCells = false → o.isWalk = false → Kq (fun k => k = Bx ∨ vF.ownBlock = some k) W (W.putObj q o') := fun W q o o' hq => kq_put (fun k hk => by have := hG8 k hk; omega) W q o o' hq
          have HSW9 := hid_of s8
          have HIW9 := hid_of I8
          rw [← hW8, ← hTb]
          have HDlo : Hid (w.heap.size ≤ D ∧ D < T2) := hid_of ⟨by have := HD8.out.2; have := HSW8.out; have := HIW8.out.sv.zm; omega, by rw [hTb]; exact lt_of HD8.out.1⟩
          clear x4 S8 HD8 SV HDF
          clear s8 hW8 hTb I8 hF8 hG8
          apply wpIn_rangeFunc_ownG (F := Fence.wide) (n := 5) (P := Tryz.prog) (w := W9) rfl (by decide) (gf := 33) (lb := #[.pointer (some ⟨Bx, 0, none⟩)]) rfl trivial (enters_of Tryz.func33 (by kernel_rfl) rfl) hIt kq_t hKb (Below.refl _ _) (fun _ => rfl)
            (fun pre W => Iv w w.heap.size w2.heap.size Bx w1.heap.size b m lv vF (.slice a3 L.length c3) L [D] T2 (T2 + 1) 1 pre W)
            (fun c pre W => False)
            (iv_own w w.heap.size w2.heap.size Bx w1.heap.size b m lv vF (.slice a3 L.length c3) L [D] T2 (T2 + 1) 1 _ (by have := HSW9.out; omega))
            (fun c _ _ _ _ hf _ _ => hf)
            HIW9.out
          case hassign =>
            intro lp x W K hK
            unfold encF
            gi_wp2
            exact hK
          case hbody =>
            rintro lp pre x W hIv hpl
            have hpl' : pre.length < L.length := hpl
            have hxn := hLn x.1 x.2
            obtain ⟨vg, hg1, hg2⟩ := hIv.got
            have cG : W.cell? ⟨T2 + 1, 0, none⟩ = some vg := Lib.cell_of_heap hg1 0
            have hgs := hIv.gsz
            have hu := fs_lit W [x.1] (by simp)
            rw [show ([x.1].flatMap eCells).toArray = #[.string (mk x.1.1), .int .i64 x.1.2] from rfl] at hu
            obtain ⟨v', w3, hr, ho, hgr⟩ := append_fs (T2 + 1 + 1) (W.alloc (.cells #[.string (mk x.1.1), .int .i64 x.1.2] 35)) vg _ (pre.map (·.1)) [x.1] (row_below hg2 (bnew W _)) hu (by simp; omega) (by simp; omega)
            obtain ⟨hi1, hk1, hlow1, hG1⟩ := iv_step hIv x hg2 _ hgr ho
            have hG2 : (w3.setCell ⟨T2 + 1, 0, none⟩ v').heap[T2 + 1]? = some (.cells #[v'] 22 (0, 0)) := by
              have := set_at (i := 0) (hG1.trans hg1) v'
              simpa using this
            obtain ⟨ag, cg, hag, _⟩ := id (fs_row hg2)
            obtain ⟨an, cn, han, _⟩ := id (fs_row ho)
            rw [List.length_map] at hag
            rw [show (pre.map (·.1) ++ [x.1]).length = pre.length + 1 from by simp] at han
            have hrw0 : w3.cell? ⟨T2 + 1, 0, none⟩ = some vg := Lib.cell_of_heap (hG1.trans hg1) 0
            have hrw1 : w3.frozen? ⟨T2 + 1, 0, none⟩ = false := Lib.frozen_of_heap (hG1.trans hg1) 0
            have hrw2 : (w3.setCell ⟨T2 + 1, 0, none⟩ v').cell? ⟨w2.heap.size, 0, none⟩ = some (.pointer (some ⟨b, 0, none⟩)) := Lib.cell_of_heap hi1.sv.rc 0
            subst hag
            subst han
            have HIv := hid_of hIv
            have HI1 := hid_of hi1
            have HK1 := hid_of (And.intro hk1 hlow1)
            have HG2 := hid_of hG2
            have HXN := hid_of hxn
            obtain ⟨t', ml', X', rx', hX'⟩ := hi1.sv.rk
            have H14 := hid_of (drop2_call rx' x.1.1 hxn hX')
            have HX' := hid_of hX'
            unfold ptr at H14
            clear hIv hg1 hg2 hxn hgs hu ho hgr hi1 hk1 hlow1 hG1 hG2 hX' rx'
            generalize hX : mk x.1.1 = X at *
            generalize hY : x.1.2 = Y at *
            clear hX hY
            simp only [List.length_cons, List.length_nil, Nat.zero_add] at hr
            gi_wp2_with (first
              | (gi_at_builtin; refine wplIn_eq rfl _ _ 22 22 rfl (.slice ag pre.length cg) (.slice (some ⟨W.heap.size, 0, none⟩) 1 1) (.slice an (pre.length + 1) cn) _ w3 rfl rfl hr ?_; clear hr)
              | go_in)
            refine ⟨trivial, (CallsIn.inRound lp (callsIn_wide.2 H14.out)).mono ?_⟩
            rintro e w4' ⟨rfl, ⟨t2, ml2, rx2⟩, em⟩
            obtain ⟨hi4, hc4⟩ := iv_drop HI1.out em ⟨t2, ml2, _, rx2, Nat.le_trans (wout_len _ _) HX'.out⟩
            have hmlt : m < T2 := hi4.sv.ltZ.2.2.2.1
            have x1 : w4'.cell? ⟨T2, 0, none⟩ = some (.int .i64 1) := Lib.cell_of_heap hi4.tb 0
            have x2 : w4'.cell? ⟨w.heap.size, 0, none⟩ = some (.int .i64 lv) := Lib.cell_of_heap hi4.sv.lc 0
            have x3 : w4'.cell? ⟨T2 + 1, 0, none⟩ = some (.slice an (pre.length + 1) cn) := Lib.cell_of_heap (hc4 _ _ _ _ HG2.out (by decide) (by decide)) 0
            have HKF : Hid (KeepsFrom W9.heap.size W w4') := hid_of (by rw [HSW9.out]; exact HK1.out.1.trans (EM.from em (by omega)))
            have HKP : Hid (Kq (fun k => k = Bx ∨ vF.ownBlock = some k) W w4') := hid_of (kq_em HIv.out.sv (fun k hk => HK1.out.2 k (by omega)) hc4)
            have HI4 := hid_of hi4
            have hlp : ((pre ++ [x]).length : Int) = (pre.length : Int) + 1 := by simp
            clear hi4 hc4 rx2 em H14 HG2 HI1 HK1 hmlt hrw0 hrw1 hrw2 HX' HXN
            gi_wp2_with fail
            exact ⟨HKF.out, HKP.out, HI4.out⟩
          case hdone =>
            rintro D2 xs W hD hxs hIv hK
            have hxl : xs.length = L.length := by rw [hxs, xs_len L L.length (Nat.le_refl _)]
            have hxm : xs.map (·.1) = L := by rw [hxs, xs_map, List.take_length]
            obtain ⟨vg, hg1, hg2⟩ := hIv.got
            rw [hxm] at hg2
            have x1 : W.cell? ⟨T2, 0, none⟩ = some (.int .i64 1) := Lib.cell_of_heap hIv.tb 0
            have x3 : W.cell? ⟨T2 + 1, 0, none⟩ = some vg := Lib.cell_of_heap hg1 0
            have H17 := hid_of (same_call vg _ L L W (fs_row hg2) (fs_row hIv.sv.rm) hLb hLb)
            rw [decide_eq_true (rfl : L = L)] at H17
            obtain ⟨ag2, cg2, hag, _⟩ := fs_row hg2
            subst hag
            have HBE := hid_of hIv.sv.bel
            have HDF := hid_of (And.intro hK (hIv.df D (by simp)).2)
            have HD2 := hid_of (show w.heap.size ≤ D2 ∧ D ≠ D2 from by have := HSW9.out; have := HDlo.out; have := hIv.sv.zm; exact ⟨by omega, by omega⟩)
            clear hIv hg1 hg2 hxs hxl hxm hD hK hIt hKb
            gi_wp2_with fail
            refine ⟨trivial, callsIn_wide.2 (H17.out.mono ?_)⟩
            rintro e w11 hw11
            obtain ⟨rfl, b11⟩ := hw11
            have x4 := cell_on b11 x1
            have HB11 := hid_of b11
            clear b11 H17 x1 x3
            gi_wp2_with fail
            rw [roundsIn_succ]
            gi_wp2_with fail
            have bA : Below w11.heap.size w11 (w11.alloc (.cells #[.int .i64 2] 3)) := (Below.refl _ w11).alloc (Nat.le_refl _) _
            have bB : Below W.heap.size W (w11.alloc (.cells #[.int .i64 2] 3)) := Base.bel HB11.out bA (Nat.le_refl _)
            have bC := Base.bel HBE.out bB (Nat.le_refl _)
            refine ⟨trivial, callsIn_wide.2 ((H8.out _ (HH.out.later bC)).mono ?_)⟩
            rintro e w12 hw12
            obtain ⟨rfl, b12⟩ := hw12
            have bD := Base.bel bB b12 (Nat.le_refl _)
            have hK2 : w12.heap[D2]? = some (.deferred (some [])) := (bD.block _ (lt_of HDF.out.1)).trans HDF.out.1
            have hK1 : w12.heap[D]? = some (.deferred (some [])) := (bD.block _ (lt_of HDF.out.2)).trans HDF.out.2
            have bE := hid_of (Base.bel HBE.out bD (Nat.le_refl _))
            clear bA bB bC b12 bD
            gi_wp2_with fail
            have hK3 : (w12.putObj D2 (.deferred none)).heap[D]? = some (.deferred (some [])) := ((grownBy_putObj' w12 D2 (.deferred none)).block D (lt_of hK1) (fun e => HD2.out.2 (by cases e; rfl))).trans hK1
            refine ⟨by simp, .inl ⟨_, _, rfl, run_takeDeferred hK2, ?_⟩⟩
            refine ⟨by simp, .inl ⟨_, _, rfl, run_takeDeferred hK3, ?_⟩⟩
            have bF : Below w.heap.size w (w12.putObj D2 (.deferred none)) := bE.out.grown (grownBy_putObj' w12 D2 (.deferred none)) bE.out.size (fun j hj => by cases hj; exact HD2.out.1)
            have bG : Below w.heap.size w ((w12.putObj D2 (.deferred none)).putObj D (.deferred none)) := bF.grown (grownBy_putObj' _ D (.deferred none)) bF.size (fun j hj => by cases hj; exact HDlo.out.1)
            exact ⟨_, results_tmp rfl _ _ _, rfl, bG⟩
          case hstop =>
            rintro D2 c pre W hD _ hf _
            exact hf.elim
theorem over_call (v : Value) (l : EL) (lv : Int) (w : World) (h : FS w v l) (hlv : -9223372036854775808 ≤ lv ∧ lv ≤ 9223372036854775807) (hn : l.length ≤ 5864062014634) (hk : ∀ p ∈ l, p.1.length ≤ 140737488355328) (hh : Has w) : Calls Tryz.prog 4 #[v, .int .i64 lv] w fun e w' => e = .returned (.bool true) ∧ Below w.heap.size w w' := by
  by_cases hr : AllMay l ∧ Uq l
  · exact over_yes v l lv w h hr.1 hr.2 hlv hn hk hh
  · exact OverN.over_no v l lv w h hr hn hk hh
end Go.Proofs.YtighoelipihifabGreatDoor.OverL
