/- The law on counters. -/
import Derived.Test.YtfkkcocbcflomaaGreatDoorQBegunM
import Derived.Deep.RegionHeld3
namespace Go.Proofs.YtfkkcocbcflomaaGreatDoor.QCnt
open Go.RowKit Go.Maps
open Go.Lib (itoa)
open Go.Proofs.YtfkkcocbcflomaaGreatDoor.TextMath
open Go.Proofs.YtfkkcocbcflomaaGreatDoor.SpaceMath (wout withL lkp keys Ris toD)
open Go.Proofs.YtfkkcocbcflomaaGreatDoor.Base (mk mk_list mk_size Gr hid_of SL)
open Go.Proofs.YtfkkcocbcflomaaGreatDoor.Turn
open Go.Proofs.YtfkkcocbcflomaaGreatDoor.Vals
open Go.Proofs.YtfkkcocbcflomaaGreatDoor.SBase
open Go.Proofs.YtfkkcocbcflomaaGreatDoor.SFind (alb)
open Go.Proofs.YtfkkcocbcflomaaGreatDoor.QBase
open Go.Proofs.YtfkkcocbcflomaaGreatDoor.QCmd
open Go.Proofs.YtfkkcocbcflomaaGreatDoor.QPut
open Go.Proofs.YtfkkcocbcflomaaGreatDoor.QAdd
open Go.Proofs.YtfkkcocbcflomaaGreatDoor.QNum
open Go.Proofs.YtfkkcocbcflomaaGreatDoor.QDocA (nl)
open Go.Proofs.YtfkkcocbcflomaaGreatDoor.QBegun (stO)
open Go.Proofs.YtfkkcocbcflomaaGreatDoor.QAwk (boxed)
open Go.Proofs.YtfkkcocbcflomaaGreatDoor.QCntM
open Go.Proofs.YtfkkcocbcflomaaGreatDoor.Parse (Has)
set_option linter.unusedVariables false
set_option linter.unusedSimpArgs false
abbrev IT (n : Int) : ByteArray := ⟨(itoa n).toArray⟩
/-- whole numbers that lie in a row -/
def IR (w : World) (a : Option Addr) (l : List Int) : Prop := l = [] ∨ ∃ g o, a = some ⟨g, o, none⟩ ∧ g < w.heap.size ∧ ∀ k (h : k < l.length), w.cell? ⟨g, o + k, none⟩ = some (.int .i64 (l[k]'h))
theorem vn_it {B : Nat} {w : World} {v : Value} {x : Int} (h : VN B w v (sV (itoa x))) : ∃ a n c a' n' c' a'' n'' c'', v = .agg #[.int .i64 1, .string (IT x), .slice a n c, .slice a' n' c', .slice a'' n'' c''] := QDocP.vn_s h
theorem aft0 {F X : Nat → Prop} {b : Nat} {w0 W V w3 : World} {S S' : Sp} (h0 : SP F X b W S) (lo : Below w0.heap.size w0 W) (hi : ∀ k, F k → w0.heap.size ≤ k) (hb : Below W.heap.size W V)
    (h : Dn F (fun k => X k ∨ QPut.Tmp W V k) b V w3 S') : ∃ F' X', SP F' X' b w3 S' ∧ Below w0.heap.size w0 w3 ∧ ∀ k, F' k → w0.heap.size ≤ k := by
  obtain ⟨F', s, ev, n⟩ := dn_tmp h0 hb h (Ev.refl _ _)
  exact ⟨F', _, s, lo.trans (ev.below lo.size hi), fun k q => (n k q).elim (hi k) (Nat.le_trans lo.size)⟩
theorem req_dec2 {F X : Nat → Prop} {b : Nat} {w : World} {u v x : Int} {c : Nat} (h : SP F X b w (Sn u c)) (hc : c < 9223372036854775808) (hh : Has w) (hv : InI u) (hx : InI x) (h0 : x ≠ -9223372036854775808) (e : u + -x = v) (hs : InI v) {q : Nat} (hq : w.heap[q]? = some (rowD x)) :
    Calls Tryz.prog 11 #[ptr b, .int .i64 5, .slice (some ⟨q, 0, none⟩) 3 3] w fun e w' => e = .returned (.tuple #[rp 3 ⟨#[]⟩ v, .bool true]) ∧ Dn F X b w w' (Sn v (c + 1)) := by
  subst e
  exact req_dec h hc hh hv hx h0 hs hq
set_option maxRecDepth 100000 in
set_option maxHeartbeats 16000000 in
theorem law_call (w : World) (hh : Has w) (s0 : Int) (hs0 : InI s0) (a : Option Addr) (l : List Int) (cap : Nat) (hl : IR w a l) (hll : l.length ≤ 17592186043904) (hin : ∀ x ∈ l, InI x) :
    Calls Tryz.prog 6 #[.int .i64 s0, .slice a l.length cap] w fun e w' => e = .returned (.bool true) ∧ Below w.heap.size w w' := by
  have HHas := hid_of hh
  have HL := hid_of hl
  have HI := hid_of hin
  have HS0 := hid_of hs0
  have HPr := hid_of fun (n : Int) (V : World) (h : InI n) => RPrint.rprint_any n V h
  have HAw := hid_of fun (V : World) (h : Has V) => QAwk.awake_call V h
  have HBe := hid_of fun (V : World) (g : Nat) (hg : V.heap[g]? = some (stO ⟨#[110]⟩ (IT s0) 9)) => QBegun.begun_call [110] (by decide) (itoa s0) (by have := itoa_len s0 hs0; omega) 9 (by decide) hg
  have HNum := hid_of fun (n : Int) (V : World) => QAwk.num_ok n V
  clear hh hl hin hs0
  go_enter Tryz.func6, Tryz.ntmps6
  go_wp2_with fail
  refine (HPr.out s0 w HS0.out).mono ?_
  rintro e w1 ⟨rfl, b1⟩
  obtain ⟨V1, hV1⟩ : ∃ V, V = w1.alloc (stO ⟨#[110]⟩ (IT s0) 9) := ⟨_, rfl⟩
  have bV1 : Below w.heap.size w V1 := by rw [hV1]; exact FRow.bel b1 (alb _ _) (Nat.le_refl _)
  have HQ1 := hid_of (HBe.out V1 w1.heap.size (by rw [hV1]; exact heap_alloc_new w1 _))
  have HBV1 := hid_of bV1
  have HW1 := hid_of hV1
  clear b1 hV1 bV1 HBe
  go_wp2_with fail
  rw [← HW1.out]
  refine HQ1.out.mono ?_
  rintro e w2 ⟨bx, F, X, rfl, hsp, hb2, hF⟩
  rw [sn_begun] at hsp
  have hVb : w.heap.size ≤ V1.heap.size := HBV1.out.size
  have HSP2 := hid_of hsp
  have HB2 := hid_of (HBV1.out.trans (hb2.mono hVb))
  have HF2 := hid_of (show ∀ j, F j → w.heap.size ≤ j from fun j q => Nat.le_trans hVb (hF j q))
  clear hsp hb2 hF HQ1 HW1
  go_wp2_with fail
  refine (HAw.out w2 (HHas.out.later HB2.out)).mono ?_
  rintro e w3 ⟨rfl, b3⟩
  have HSP3 := hid_of (HSP2.out.below b3)
  have HB3 := hid_of (HB2.out.trans (b3.mono HB2.out.size))
  clear b3 HSP2 HB2 HAw
  go_wp2_with fail
  generalize V1.heap.size = b at *
  go_loopg [7, 8] l.length (fun g s7 s8 wx => ∃ (k : Nat) (v : Int) (c : Nat) (F X : Nat → Prop), k ≤ l.length ∧ l.length ≤ k + g ∧ c ≤ 3 * k ∧ s7 = .int .i64 v ∧ s8 = .int .i64 (k : Int) ∧ Hid (InI v) ∧ Hid (SP F X b wx (Sn v c)) ∧ Hid (Below w.heap.size w wx) ∧ Hid (∀ j, F j → w.heap.size ≤ j))
  case atStart => exact ⟨0, s0, 0, F, X, by omega, by omega, by omega, rfl, rfl, HS0, HSP3, HB3, HF2⟩
  case round =>
    clear HSP3 HB3 HF2 HBV1
    obtain ⟨k, v, c, F1, X1, hk, hg, hc, rfl, rfl, HV, HSP, HB, HF⟩ := hrel
    by_cases hlt : k < l.length
    · obtain ⟨g', rfl⟩ : ∃ g', gk = g' + 1 := ⟨gk - 1, by omega⟩
      obtain ⟨gb, og, rfl, hgb, hcs⟩ : ∃ g o, a = some ⟨g, o, none⟩ ∧ g < w.heap.size ∧ ∀ k (h : k < l.length), w.cell? ⟨g, o + k, none⟩ = some (.int .i64 (l[k]'h)) := by
        rcases HL.out with h | h
        · rw [h] at hlt; simp at hlt
        · exact h
      obtain ⟨x, hx⟩ : ∃ x, l[k]'hlt = x := ⟨_, rfl⟩
      have hcx : w.cell? ⟨gb, og + k, none⟩ = some (.int .i64 x) := by rw [hcs k hlt, hx]
      have HX := hid_of (show InI x by rw [← hx]; exact HI.out _ (List.getElem_mem hlt))
      have g2 : (k : Int) < (l.length : Int) := by omega
      have e2 : IntKind.i64.wrap ((k : Int) + 1) = (k : Int) + 1 := IntWalk.i64_in _ (by omega)
      have hcr := (HB.out.cell (p := ⟨gb, og + k, none⟩) hgb).trans hcx
      have hgr : gb < wr.heap.size := Nat.lt_of_lt_of_le hgb HB.out.size
      clear hcs hx
      by_cases hs : InI (v + x)
      · have HA := hid_of fun (V : World) => BIncr.radd_yes v x V HV.out HX.out hs
        go_wp2_with fail
        refine (HA.out wr).mono ?_
        rintro e wq ⟨rfl, rfl⟩
        go_wp2_with fail
        refine (HPr.out x wq HX.out).mono ?_
        rintro e y1 ⟨rfl, by1⟩
        obtain ⟨V1, hV1⟩ : ∃ V, V = y1.alloc (rowI x) := ⟨_, rfl⟩
        have bV1 : Below wq.heap.size wq V1 := by rw [hV1]; exact FRow.bel by1 (alb _ _) (Nat.le_refl _)
        have HQ1 := hid_of (req_in (hv := HV.out) (hx := HX.out) (hs := hs) (sp_wide HSP.out bV1) (by omega) (HHas.out.later (HB.out.trans (bV1.mono HB.out.size))) (q := y1.heap.size) (by rw [hV1]; exact heap_alloc_new y1 _))
        have HW1 := hid_of hV1
        have HbV1 := hid_of bV1
        clear hV1 bV1 by1
        go_wp2_with fail
        rw [← HW1.out]
        refine HQ1.out.mono ?_
        rintro e u1 ⟨rfl, d1⟩
        have HA1 := hid_of (boxed HSP.out HB.out HF.out HbV1.out d1 (rO 3 ⟨#[]⟩ (v + x) (.slice none 0 0)))
        have hle1 : wq.heap.size ≤ u1.heap.size := by have := HbV1.out.size; have := dn_size d1; omega
        have HZ1 := hid_of (heap_alloc_new u1 (rO 3 ⟨#[]⟩ (v + x) (.slice none 0 0)))
        clear d1 HQ1
        obtain ⟨z1, hz1⟩ : ∃ W, W = u1.alloc (rO 3 ⟨#[]⟩ (v + x) (.slice none 0 0)) := ⟨_, rfl⟩
        rw [← hz1] at HA1 HZ1
        have HW1b := hid_of hz1
        obtain ⟨G1, Y1, ha1, hn1⟩ := HA1.out
        have HSPz1 := hid_of (show ∃ X, SP G1 X b z1 (Sn (v + x) (c + 1)) from ⟨_, ha1.sp⟩)
        have HBz1 := hid_of ha1.lo
        have HFz1 := hid_of ha1.hi
        have hxc1 := (HBz1.out.cell (p := ⟨gb, og + k, none⟩) hgb).trans hcx
        clear ha1 hn1 HA1 hz1
        have HN1 := hid_of (HNum.out (v + x))
        obtain ⟨⟨p0, p1, p2, p3⟩, -⟩ := box4 HZ1.out
        have hx1 := hxc1
        have HRow := hid_of hx1
        clear p3
        go_wp2_with fail
        rw [← HW1b.out]
        refine (HN1.out z1).mono ?_
        rintro e za ⟨rfl, bz⟩
        obtain ⟨Y1, hsp1⟩ := HSPz1.out
        have hx2 := (bz.cell (p := ⟨gb, og + k, none⟩) (Nat.lt_of_lt_of_le hgb HBz1.out.size)).trans HRow.out
        have HSP2 := hid_of (hsp1.below bz)
        have HB2 := hid_of (HBz1.out.trans (bz.mono HBz1.out.size))
        clear bz hsp1 HSPz1 HBz1 HN1 p0 p1 p2 hx1 hxc1 HW1b HZ1 HRow
        by_cases h0 : x = -9223372036854775808
        · subst h0
          go_wp2_with fail
          go_roundg g'
          case measure => omega
          case rel => exact ⟨k + 1, _, c + 1, G1, _, by omega, by omega, by omega, rfl, by rw [show ((k + 1 : Nat) : Int) = (k : Int) + 1 from by omega], hid_of hs, HSP2, HB2, HFz1⟩
        · have hne : (x != -9223372036854775808) = true := by simpa using h0
          have H0 := hid_of h0
          go_wp2_with fail
          refine (HPr.out x za HX.out).mono ?_
          rintro e y2 ⟨rfl, by2⟩
          obtain ⟨V2, hV2⟩ : ∃ V, V = y2.alloc (rowD x) := ⟨_, rfl⟩
          have bV2 : Below za.heap.size za V2 := by rw [hV2]; exact FRow.bel by2 (alb _ _) (Nat.le_refl _)
          have HQ2 := hid_of (req_dec2 (e := show v + x + -x = v by omega) (hv := hs) (hx := HX.out) (h0 := h0) (hs := HV.out) (sp_wide HSP2.out bV2) (by omega) (HHas.out.later (HB2.out.trans (bV2.mono HB2.out.size))) (q := y2.heap.size) (by rw [hV2]; exact heap_alloc_new y2 _))
          have HW2 := hid_of hV2
          have HbV2 := hid_of bV2
          clear hV2 bV2 by2
          go_wp2_with fail
          rw [← HW2.out]
          refine HQ2.out.mono ?_
          rintro e u2 ⟨rfl, d2⟩
          have HA2 := hid_of (boxed HSP2.out HB2.out HFz1.out HbV2.out d2 (rO 3 ⟨#[]⟩ v (.slice none 0 0)))
          have hle2 : za.heap.size ≤ u2.heap.size := by have := HbV2.out.size; have := dn_size d2; omega
          have HZ2 := hid_of (heap_alloc_new u2 (rO 3 ⟨#[]⟩ v (.slice none 0 0)))
          clear d2 HQ2
          obtain ⟨z2, hz2⟩ : ∃ W, W = u2.alloc (rO 3 ⟨#[]⟩ v (.slice none 0 0)) := ⟨_, rfl⟩
          rw [← hz2] at HA2 HZ2
          have HW2b := hid_of hz2
          obtain ⟨G2, Y2, ha2, hn2⟩ := HA2.out
          have HSPz2 := hid_of (show ∃ X, SP G2 X b z2 (Sn v (c + 2)) from ⟨_, ha2.sp⟩)
          have HBz2 := hid_of ha2.lo
          have HFz2 := hid_of ha2.hi
          have hxc2 := (HBz2.out.cell (p := ⟨gb, og + k, none⟩) hgb).trans hcx
          clear ha2 hn2 HA2 hz2
          obtain ⟨⟨p0, p1, p2, p3⟩, -⟩ := box4 HZ2.out
          have HN2 := hid_of (HNum.out v)
          have hx3 := hxc2
          have HRow := hid_of hx3
          clear p3 hx2 hx3 hxc2
          go_wp2_with fail
          rw [← HW2b.out]
          refine (HN2.out z2).mono ?_
          rintro e z4 ⟨rfl, bz⟩
          obtain ⟨Y2, hsp2⟩ := HSPz2.out
          have hx4 := (bz.cell (p := ⟨gb, og + k, none⟩) (Nat.lt_of_lt_of_le hgb HBz2.out.size)).trans HRow.out
          have HSP4 := hid_of (hsp2.below bz)
          have HB4 := hid_of (HBz2.out.trans (bz.mono HBz2.out.size))
          clear bz hsp2 HSPz2 HBz2 HN2 p0 p1 p2 HW2b HZ2 HRow
          go_wp2_with fail
          refine (HPr.out x z4 HX.out).mono ?_
          rintro e y3 ⟨rfl, by3⟩
          obtain ⟨V3, hV3⟩ : ∃ V, V = y3.alloc (rowI x) := ⟨_, rfl⟩
          have bV3 : Below z4.heap.size z4 V3 := by rw [hV3]; exact FRow.bel by3 (alb _ _) (Nat.le_refl _)
          have HQ3 := hid_of (req_in (hv := HV.out) (hx := HX.out) (hs := hs) (sp_wide HSP4.out bV3) (by omega) (HHas.out.later (HB4.out.trans (bV3.mono HB4.out.size))) (q := y3.heap.size) (by rw [hV3]; exact heap_alloc_new y3 _))
          have HW3 := hid_of hV3
          have HbV3 := hid_of bV3
          clear hV3 bV3 by3
          go_wp2_with fail
          rw [← HW3.out]
          refine HQ3.out.mono ?_
          rintro e u3 ⟨rfl, d3⟩
          have HE := hid_of (aft0 HSP4.out HB4.out HFz2.out HbV3.out d3)
          clear d3 HQ3
          obtain ⟨F5, X5, h5, h5b, h5f⟩ := HE.out
          have H5 := hid_of h5
          have H5b := hid_of h5b
          have H5f := hid_of h5f
          clear h5 h5b h5f HE
          go_wp2_with fail
          go_roundg g'
          case measure => omega
          case rel => exact ⟨k + 1, _, c + 3, F5, X5, by omega, by omega, by omega, rfl, by rw [show ((k + 1 : Nat) : Int) = (k : Int) + 1 from by omega], hid_of hs, H5, H5b, H5f⟩
      · have HA := hid_of fun (V : World) => BIncr.radd_no v x V HV.out HX.out hs
        go_wp2_with fail
        refine (HA.out wr).mono ?_
        rintro e wq ⟨rfl, rfl⟩
        go_wp2_with fail
        refine (HPr.out x wq HX.out).mono ?_
        rintro e y1 ⟨rfl, by1⟩
        obtain ⟨V1, hV1⟩ : ∃ V, V = y1.alloc (rowI x) := ⟨_, rfl⟩
        have bV1 : Below wq.heap.size wq V1 := by rw [hV1]; exact FRow.bel by1 (alb _ _) (Nat.le_refl _)
        have HQ1 := hid_of (req_out (hv := HV.out) (hx := HX.out) (hs := hs) (sp_wide HSP.out bV1) (by omega) (HHas.out.later (HB.out.trans (bV1.mono HB.out.size))) (q := y1.heap.size) (by rw [hV1]; exact heap_alloc_new y1 _))
        have HW1 := hid_of hV1
        have HbV1 := hid_of bV1
        clear hV1 bV1 by1
        go_wp2_with fail
        rw [← HW1.out]
        refine HQ1.out.mono ?_
        rintro e u1 ⟨rfl, d1⟩
        have HA1 := hid_of (boxed HSP.out HB.out HF.out HbV1.out d1 (rO 2 overB 0 (.slice none 0 0)))
        have hle1 : wq.heap.size ≤ u1.heap.size := by have := HbV1.out.size; have := dn_size d1; omega
        have HZ1 := hid_of (heap_alloc_new u1 (rO 2 overB 0 (.slice none 0 0)))
        clear d1 HQ1
        obtain ⟨z1, hz1⟩ : ∃ W, W = u1.alloc (rO 2 overB 0 (.slice none 0 0)) := ⟨_, rfl⟩
        rw [← hz1] at HA1 HZ1
        have HW1b := hid_of hz1
        obtain ⟨G1, Y1, ha1, hn1⟩ := HA1.out
        have HSPz1 := hid_of (show ∃ X, SP G1 X b z1 (Sn v c) from ⟨_, ha1.sp⟩)
        have HBz1 := hid_of ha1.lo
        have HFz1 := hid_of ha1.hi
        have hxc1 := (HBz1.out.cell (p := ⟨gb, og + k, none⟩) hgb).trans hcx
        clear ha1 hn1 HA1 hz1
        obtain ⟨⟨p0, p1, p2, p3⟩, -⟩ := box4 HZ1.out
        obtain ⟨Y1, hsp1⟩ := HSPz1.out
        have HSP2 := hid_of hsp1
        clear hsp1
        go_wp2_with fail
        rw [← HW1b.out]
        go_wp2_with fail
        go_roundg g'
        case measure => omega
        case rel => exact ⟨k + 1, v, c, G1, _, by omega, by omega, by omega, rfl, by rw [show ((k + 1 : Nat) : Int) = (k : Int) + 1 from by omega], HV, HSP2, HBz1, HFz1⟩
    · obtain rfl : k = l.length := by omega
      have gi : ¬ (l.length : Int) < (l.length : Int) := by omega
      have HG := hid_of (get_yes HSP.out [110] (by decide) 5 (sn_gt v c))
      have HPv := hid_of fun (V : World) => HPr.out v V HV.out
      go_wp2_with fail
      refine HG.out.mono ?_
      rintro e w5 ⟨u, rfl, hu, b5⟩
      obtain ⟨a1, n1, c1, a2, n2, c2, a3, n3, c3, rfl⟩ := vn_it hu
      obtain ⟨V, hV⟩ : ∃ V, V = w5.alloc (.cells #[.int .i64 1, .string (IT v), .slice a1 n1 c1, .slice a2 n2 c2, .slice a3 n3 c3] 48) := ⟨_, rfl⟩
      have bV : Below wr.heap.size wr V := by rw [hV]; exact FRow.bel b5 (alb _ _) (Nat.le_refl _)
      have xV : V.heap[w5.heap.size]? = some (.cells #[.int .i64 1, .string (IT v), .slice a1 n1 c1, .slice a2 n2 c2, .slice a3 n3 c3] 48 (0, 0)) := by rw [hV]; exact heap_alloc_new w5 _
      have hd := due_call (HSP.out.below bV) [110] (by decide) 5
      rw [sn_due, show (gt (Sn v c) 5 [110]).isSome = true from by rw [sn_gt]; rfl] at hd
      have HD := hid_of hd
      have HXV := hid_of xV
      have HBV := hid_of (HB.out.trans (bV.mono HB.out.size))
      have HVw := hid_of hV
      clear hu b5 hV bV xV hd HG
      go_wp2_with fail
      rw [← HVw.out]
      refine HD.out.mono ?_
      rintro e w6 ⟨rfl, b6⟩
      have X6 := hid_of ((b6.block _ (lt_of HXV.out)).trans HXV.out)
      have HB6 := hid_of (HBV.out.trans (b6.mono HBV.out.size))
      have t0 : w6.drew.cell? ⟨w5.heap.size, 1, none⟩ = some (.string (IT v)) := Lib.cell_of_heap X6.out 1
      clear b6 HD
      go_wp2_with fail
      go_region_held3 (fun V => V.cell? ⟨w5.heap.size, 1, none⟩ = some (.string (IT v))) (first | with_reducible exact t0 | with_reducible exact t1) (first
        | (go_at_call 24; refine (HPv.out w6.drew).mono ?_; rintro e w7 ⟨rfl, b7⟩; have B7 := hid_of (HB6.out.trans ((FRow.bel (Below.refl _ w6).drew b7 (Nat.le_refl _)).mono HB6.out.size)); have t1 : w7.cell? ⟨w5.heap.size, 1, none⟩ = some (.string (IT v)) := Lib.cell_of_heap (((FRow.bel (Below.refl _ w6).drew b7 (Nat.le_refl _)).block _ (lt_of X6.out)).trans X6.out) 1; clear b7))
      go_wp2_with fail
      exact bodyPost_ret (v := .bool true) (by simp [results, Tryz.results6, go_sem]) rfl ⟨rfl, B7.out⟩
end Go.Proofs.YtfkkcocbcflomaaGreatDoor.QCnt
