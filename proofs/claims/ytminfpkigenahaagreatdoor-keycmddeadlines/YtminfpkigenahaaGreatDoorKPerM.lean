/- PERSIST. The requests of KeycmdDeadlines. -/
import Derived.Test.YtminfpkigenahaaGreatDoorParseM
import Derived.Test.YtminfpkigenahaaGreatDoorKTtlM
import Derived.Test.YtminfpkigenahaaGreatDoorKLenM
section
namespace Go.Proofs.YtminfpkigenahaaGreatDoor.KPer
open Go.RowKit Go.Maps
open Go.Proofs.YtminfpkigenahaaGreatDoor.SpaceMath (wout withL lkp keys Ris toD)
open Go.Proofs.YtminfpkigenahaaGreatDoor.ValueMath (Vl chk small)
open Go.Proofs.YtminfpkigenahaaGreatDoor.Base (mk mk_list mk_size Gr hid_of SL)
open Go.Proofs.YtminfpkigenahaaGreatDoor.Turn
open Go.Proofs.YtminfpkigenahaaGreatDoor.Vals
open Go.Proofs.YtminfpkigenahaaGreatDoor.Check0 (Wel)
open Go.Proofs.YtminfpkigenahaaGreatDoor.SBase
open Go.Proofs.YtminfpkigenahaaGreatDoor.SFind
open Go.Proofs.YtminfpkigenahaaGreatDoor.SPut (vO)
open Go.Proofs.YtminfpkigenahaaGreatDoor.QBase
open Go.Proofs.YtminfpkigenahaaGreatDoor.KCmd
open Go.Proofs.YtminfpkigenahaaGreatDoor.Parse (Has)
set_option linter.unusedVariables false
set_option linter.unusedSimpArgs false
open Go.Proofs.YtminfpkigenahaaGreatDoor.KEx
section
variable {F X : Nat → Prop} {b : Nat} {w : World} {S : Sp}
set_option maxHeartbeats 4000000 in
set_option maxRecDepth 100000 in
theorem persist_no (h : SP F X b w S) (now : Int) {G : Nat → Prop} {a : Option Addr} {n c : Nat} {l : List Base.El} (hl : SL G w (.slice a n c) l) (hl0 : 0 < l.length) (hk : l[0].length ≤ 281474976710656) (hd : dueV S now l[0] = 0) :
    Calls Tryz.prog 48 #[cV b now a n c] w fun e w' => e = .returned (rp 3 ⟨#[]⟩ 0) ∧ Dn F X b w w' S := by
  obtain ⟨rfl, hcs⟩ := sl_get hl
  obtain ⟨ga, oa, rfl, hc0⟩ := hcs 0 (by omega)
  rw [Nat.add_zero] at hc0
  have hga : ga < w.heap.size := Base.cell_lt hc0
  obtain ⟨W, hW⟩ : ∃ W, W = (w.alloc (cO b now (some ⟨ga, oa, none⟩) l.length c)).alloc (rO 0 ⟨#[]⟩ 0 (.slice none 0 0)) := ⟨_, rfl⟩
  obtain ⟨bW, x0, x1, sW⟩ := two_boxes w (cO b now (some ⟨ga, oa, none⟩) l.length c) (rO 0 ⟨#[]⟩ 0 (.slice none 0 0)) ⟨_, _, rfl⟩
  rw [← hW] at bW x0 x1 sW
  have HH := hid_of h
  have HB := hid_of bW
  have HX0 := hid_of x0
  have HX1 := hid_of x1
  have HSW := hid_of sW
  have HW := hid_of hW
  have t0 : KCmd.Tmp w W w.heap.size := ⟨Nat.le_refl _, by rw [HSW.out]; omega⟩
  have t1 : KCmd.Tmp w W (w.heap.size + 1) := ⟨by omega, by rw [HSW.out]; omega⟩
  have H1 := hid_of fun (V : World) (hV : Below W.heap.size W V) => QBase.due_call ((sp_wide h bW).below hV) l[0] hk now
  have HC := hid_of fun (V : World) (n : Int) => count_call n V
  have HBx : Hid (∀ V, Below W.heap.size W V → V.cell? ⟨w.heap.size, 0, none⟩ = some (ptr b) ∧ V.cell? ⟨w.heap.size, 1, none⟩ = some (.int .i64 now) ∧ V.cell? ⟨w.heap.size, 2, none⟩ = some (.slice (some ⟨ga, oa, none⟩) l.length c)) := hid_of fun V hV => (box3 ((hV.block _ (lt_of HX0.out)).trans HX0.out)).1
  obtain ⟨c0, c1, c2⟩ := HBx.out W (Below.refl _ W)
  have hcW := (bW.cell (p := ⟨ga, oa, none⟩) hga).trans hc0
  have cx0 := hcW
  rw [HW.out] at cx0
  unfold cO rO at cx0
  have hlb0 : (0 : Int) < (l.length : Int) := by omega
  rw [hd] at H1
  generalize (gt S now l[0]).isSome = there at *
  clear hW bW x0 x1 sW h hd hcs hl hc0 hk
  generalize mk l[0] = KK at *
  go_enter Tryz.func48, Tryz.ntmps48
  go_wp2_with fail
  rw [← HW.out]
  go_wp2_with fail
  refine (H1.out _ (Below.refl _ W)).mono ?_
  rintro e w1 ⟨rfl, b1⟩
  have B1 := hid_of b1
  obtain ⟨q0, q1, q2⟩ := HBx.out w1 b1
  clear b1
  go_wp2_with fail
  refine (HC.out _ _).mono ?_
  rintro e w2 ⟨rfl, b2⟩
  have D2 := Dn.of (sp_wide HH.out HB.out) (FRow.bel B1.out b2 (Nat.le_refl _))
  have z2 := (dn_block HH.out HB.out D2 t1).trans HX1.out
  have hz := fin4_at z2 (.int .i64 3) (.string ⟨#[]⟩) (.int .i64 0) (.slice none 0 0)
  have hdn := dn_tmp HH.out HB.out D2 (ev_fin4 t1 (.int .i64 3) (.string ⟨#[]⟩) (.int .i64 0) (.slice none 0 0))
  unfold fin4 at hz hdn
  obtain ⟨⟨v0, v1, v2, v3⟩, fv⟩ := box4 z2
  have fv0 := fv 0
  have fv1 := fv 1
  have fv2 := fv 2
  have fv3 := fv 3
  clear fv z2
  go_wp2_with fail
  obtain ⟨⟨g0, g1, g2, g3⟩, -⟩ := box4 hz
  exact bodyPost_ret (v := (rp 3 ⟨#[]⟩ 0)) (by simp [results, Tryz.results48, go_sem, g0, g1, g2, g3]) rfl ⟨rfl, hdn⟩
set_option maxHeartbeats 4000000 in
set_option maxRecDepth 100000 in
theorem persist_yes (h : SP F X b w S) (hr : Room S) (now : Int) {G : Nat → Prop} {a : Option Addr} {n c : Nat} {l : List Base.El} (hl : SL G w (.slice a n c) l) (hl0 : 0 < l.length) (hk : l[0].length ≤ 281474976710656) {en : En} (hg : gt S now l[0] = some en) (hd : ¬ en.due = 0) :
    Calls Tryz.prog 48 #[cV b now a n c] w fun e w' => e = .returned (rp 3 ⟨#[]⟩ 1) ∧ Dn F X b w w' ⟨withL S.l l[0] ⟨en.val, 0, S.cnt + 1⟩, S.cnt + 1, none⟩ := by
  obtain ⟨rfl, hcs⟩ := sl_get hl
  obtain ⟨ga, oa, rfl, hc0⟩ := hcs 0 (by omega)
  rw [Nat.add_zero] at hc0
  have hga : ga < w.heap.size := Base.cell_lt hc0
  obtain ⟨W, hW⟩ : ∃ W, W = (w.alloc (cO b now (some ⟨ga, oa, none⟩) l.length c)).alloc (rO 0 ⟨#[]⟩ 0 (.slice none 0 0)) := ⟨_, rfl⟩
  obtain ⟨bW, x0, x1, sW⟩ := two_boxes w (cO b now (some ⟨ga, oa, none⟩) l.length c) (rO 0 ⟨#[]⟩ 0 (.slice none 0 0)) ⟨_, _, rfl⟩
  rw [← hW] at bW x0 x1 sW
  have HH := hid_of h
  have HB := hid_of bW
  have HX0 := hid_of x0
  have HX1 := hid_of x1
  have HSW := hid_of sW
  have HW := hid_of hW
  have t0 : KCmd.Tmp w W w.heap.size := ⟨Nat.le_refl _, by rw [HSW.out]; omega⟩
  have t1 : KCmd.Tmp w W (w.heap.size + 1) := ⟨by omega, by rw [HSW.out]; omega⟩
  have H1 := hid_of fun (V : World) (hV : Below W.heap.size W V) => QBase.due_call ((sp_wide h bW).below hV) l[0] hk now
  have HC := hid_of fun (V : World) (n : Int) => count_call n V
  have HBx : Hid (∀ V, Below W.heap.size W V → V.cell? ⟨w.heap.size, 0, none⟩ = some (ptr b) ∧ V.cell? ⟨w.heap.size, 1, none⟩ = some (.int .i64 now) ∧ V.cell? ⟨w.heap.size, 2, none⟩ = some (.slice (some ⟨ga, oa, none⟩) l.length c)) := hid_of fun V hV => (box3 ((hV.block _ (lt_of HX0.out)).trans HX0.out)).1
  obtain ⟨c0, c1, c2⟩ := HBx.out W (Below.refl _ W)
  have hcW := (bW.cell (p := ⟨ga, oa, none⟩) hga).trans hc0
  have cx0 := hcW
  rw [HW.out] at cx0
  unfold cO rO at cx0
  have hlb0 : (0 : Int) < (l.length : Int) := by omega
  have hdv : dueV S now l[0] = en.due := by unfold dueV; rw [hg]; rfl
  rw [hdv, hg] at H1
  simp only [Option.isSome_some] at H1
  have hlk := (gt_some hg).1
  have HSd : Hid (∀ V, Dn F (fun k => X k ∨ KCmd.Tmp w W k) b W V S → Calls Tryz.prog 84 #[ptr b, .string (mk l[0]), .int .i64 0] V fun e w' => e = .returned (.bool true) ∧ Dn F (fun k => X k ∨ KCmd.Tmp w W k) b W w' ⟨withL S.l l[0] ⟨en.val, 0, S.cnt + 1⟩, S.cnt + 1, none⟩) := hid_of fun V DV => wr_dn DV fun F1 s1 => SDrop.setdue_yes s1 hr.m hr.c hr.n l[0] hk 0 (by decide) hlk
  obtain ⟨S2, hS2⟩ : ∃ S2 : Sp, S2 = ⟨withL S.l l[0] ⟨en.val, 0, S.cnt + 1⟩, S.cnt + 1, none⟩ := ⟨_, rfl⟩
  rw [← hS2] at HSd
  rw [← hS2]
  clear hW bW x0 x1 sW h hg hlk hdv hcs hl hc0 hk hS2
  generalize en.due = du at *
  have hne : (du == 0) = false := by simpa using hd
  generalize mk l[0] = KK at *
  go_enter Tryz.func48, Tryz.ntmps48
  go_wp2_with fail
  rw [← HW.out]
  go_wp2_with fail
  refine (H1.out _ (Below.refl _ W)).mono ?_
  rintro e w1 ⟨rfl, b1⟩
  have B1 := hid_of b1
  obtain ⟨q0, q1, q2⟩ := HBx.out w1 b1
  clear b1
  have DB := hid_of (Dn.of (sp_wide HH.out HB.out) B1.out)
  go_wp2_with fail
  refine (HSd.out _ DB.out).mono ?_
  rintro e w5 ⟨rfl, d5⟩
  have D5 := hid_of d5
  clear d5 q0 q1 q2 c0 c1 c2
  go_wp2_with fail
  refine (HC.out _ _).mono ?_
  rintro e w6 ⟨rfl, b6⟩
  have D6 := SDrop.dn_below D5.out b6
  have z2 := (dn_block HH.out HB.out D6 t1).trans HX1.out
  have hz := fin4_at z2 (.int .i64 3) (.string ⟨#[]⟩) (.int .i64 1) (.slice none 0 0)
  have hdn := dn_tmp HH.out HB.out D6 (ev_fin4 t1 (.int .i64 3) (.string ⟨#[]⟩) (.int .i64 1) (.slice none 0 0))
  unfold fin4 at hz hdn
  obtain ⟨⟨v0, v1, v2, v3⟩, fv⟩ := box4 z2
  have fv0 := fv 0
  have fv1 := fv 1
  have fv2 := fv 2
  have fv3 := fv 3
  clear fv z2
  go_wp2_with fail
  obtain ⟨⟨g0, g1, g2, g3⟩, -⟩ := box4 hz
  exact bodyPost_ret (v := (rp 3 ⟨#[]⟩ 1)) (by simp [results, Tryz.results48, go_sem, g0, g1, g2, g3]) rfl ⟨rfl, hdn⟩
end
end Go.Proofs.YtminfpkigenahaaGreatDoor.KPer
end
section
namespace Go.Proofs.YtminfpkigenahaaGreatDoor.KDl
open Go.RowKit Go.Maps
open Go.Proofs.YtminfpkigenahaaGreatDoor.SpaceMath (wout withL lkp keys Ris toD)
open Go.Proofs.YtminfpkigenahaaGreatDoor.ValueMath (Vl chk small)
open Go.Proofs.YtminfpkigenahaaGreatDoor.Base (mk mk_list mk_size Gr hid_of SL)
open Go.Proofs.YtminfpkigenahaaGreatDoor.Turn
open Go.Proofs.YtminfpkigenahaaGreatDoor.Vals
open Go.Proofs.YtminfpkigenahaaGreatDoor.Check0 (Wel)
open Go.Proofs.YtminfpkigenahaaGreatDoor.SBase
open Go.Proofs.YtminfpkigenahaaGreatDoor.SFind
open Go.Proofs.YtminfpkigenahaaGreatDoor.SPut (vO)
open Go.Proofs.YtminfpkigenahaaGreatDoor.QBase
open Go.Proofs.YtminfpkigenahaaGreatDoor.KCmd
open Go.Proofs.YtminfpkigenahaaGreatDoor.Parse (Has)
set_option linter.unusedVariables false
set_option linter.unusedSimpArgs false
open Go.Proofs.YtminfpkigenahaaGreatDoor.KReq
open Go.Proofs.YtminfpkigenahaaGreatDoor.KTtl (ttlM dueT)
open Go.Proofs.YtminfpkigenahaaGreatDoor.KEx (exM)
open Go.Proofs.YtminfpkigenahaaGreatDoor.KRun (Ent)
open Go.Lib (itoa)
abbrev VX : Vl := sV [118]
abbrev A0 : Sp := ⟨[([107], ⟨VX, 0, 1⟩)], 1, none⟩
abbrev A1 (D : Int) : Sp := ⟨[([107], ⟨VX, D, 2⟩)], 2, none⟩
abbrev A2 : Sp := ⟨[([107], ⟨VX, 0, 3⟩)], 3, none⟩
abbrev A3 : Sp := ⟨[], 4, none⟩
/-- what is asked of the deadline and the tick -/
structure In (D N : Int) : Prop where
  a : 1 ≤ D
  b : D ≤ 9007199254740992
  c : 0 ≤ N
  d : N < D
theorem In.i64 {D N : Int} (h : In D N) : -9223372036854775808 ≤ D ∧ D ≤ 9223372036854775807 := by have := h.a; have := h.b; omega
theorem gA0 (N : Int) : gt A0 N [107] = some ⟨VX, 0, 1⟩ := by
  show Option.filter (fun e => seenB e.due e.ver N) (some (⟨VX, 0, 1⟩ : En)) = _
  simp [Option.filter, seenB]
theorem gA1 {D N : Int} (h : N < D) : gt (A1 D) N [107] = some ⟨VX, D, 2⟩ := by
  show Option.filter (fun e => seenB e.due e.ver N) (some (⟨VX, D, 2⟩ : En)) = _
  simp [Option.filter, seenB, h]
theorem gA1n {D : Int} (h : 1 ≤ D) : gt (A1 D) D [107] = none := by
  show Option.filter (fun e => seenB e.due e.ver D) (some (⟨VX, D, 2⟩ : En)) = _
  have h0 : ¬ D = 0 := by omega
  simp [Option.filter, seenB, h0]
theorem gA2 (N : Int) : gt A2 N [107] = some ⟨VX, 0, 3⟩ := by
  show Option.filter (fun e => seenB e.due e.ver N) (some (⟨VX, 0, 3⟩ : En)) = _
  simp [Option.filter, seenB]
theorem roomA0 : Room A0 := ⟨rfl, by decide, by decide⟩
theorem roomA1 (D : Int) : Room (A1 D) := ⟨rfl, by show 2 + 1 < _; decide, by show 1 + 1 < _; decide⟩
theorem roomA2 : Room A2 := ⟨rfl, by decide, by decide⟩
theorem ttl_1 {D N s : Int} (h : N < D) (h1 : 1 ≤ D) : ttlM (A1 D) N [107] s 1 = D - s := by
  unfold ttlM
  rw [gA1 h]
  have h0 : ¬ D = 0 := by omega
  show (if D = 0 then -1 else Int.tdiv (D - s + 1 - 1) 1) = _
  rw [if_neg h0, Int.tdiv_one]
  omega
def secs (D N : Int) : Int := Int.tdiv (D - N + 1000 - 1) 1000
theorem ttl_s {D N : Int} (h : N < D) (h1 : 1 ≤ D) : ttlM (A1 D) N [107] N 1000 = secs D N := by
  unfold ttlM
  rw [gA1 h]
  have h0 : ¬ D = 0 := by omega
  show (if D = 0 then -1 else Int.tdiv (D - N + 1000 - 1) 1000) = _
  rw [if_neg h0]
  rfl
theorem secs_in {D N : Int} (h : In D N) : 1 ≤ secs D N ∧ secs D N ≤ 9007199254742 ∧ D - N ≤ 1000 * secs D N ∧ 1000 * (secs D N - 1) < D - N := by
  have h1 := h.a; have h2 := h.b; have h3 := h.c; have h4 := h.d
  unfold secs
  rw [Int.tdiv_eq_ediv_of_nonneg (by omega)]
  omega
theorem ttl_n {D : Int} (h : 1 ≤ D) : ttlM (A1 D) D [107] D 1000 = -2 := by
  unfold ttlM
  rw [gA1n h]
  rfl
theorem ttl_2 (D : Int) : ttlM A2 D [107] D 1000 = -1 := by
  unfold ttlM
  rw [gA2]
  rfl
theorem ex_1 {D N : Int} (h : N < D) : exM (A1 D) N [[107]] = 1 := by
  unfold exM
  simp [gA1 h]
theorem ex_0 {D : Int} (h : 1 ≤ D) : exM (A1 D) D [[107]] = 0 := by
  unfold exM
  simp [gA1n h]
theorem ex_3 (N : Int) : exM A3 N [[107]] = 0 := rfl
theorem prs_itoa {y : Int} (h : -9223372036854775808 ≤ y ∧ y ≤ 9223372036854775807) : prs (itoa y) = some y := by
  unfold prs
  rw [TextMath.atoi_itoa y h]
  simp
theorem dec_len : ∀ (k u : Nat), u < 10 ^ (k + 1) → (Lib.decDigits u).length ≤ k + 1
  | 0, u, h => by rw [TextMath.dec_small (by omega)]; simp
  | k + 1, u, h => by
    by_cases h1 : u < 10
    · rw [TextMath.dec_small h1]; simp
    · rw [TextMath.dec_big h1, List.length_append]
      have := dec_len k (u / 10) (by rw [Nat.pow_succ] at h; omega)
      simp
      omega
theorem itoa_bd {D N : Int} (h : In D N) : (itoa D).length ≤ 1048576 := by
  have h1 := h.a; have h2 := h.b
  unfold itoa
  rw [if_neg (by omega)]
  exact Nat.le_trans (dec_len 19 D.toNat (by omega)) (by decide)
theorem bl3 {a b c : Bs} (h1 : a.length ≤ 1048576) (h2 : b.length ≤ 1048576) (h3 : c.length ≤ 1048576) : ∀ x ∈ [a, b, c], x.length ≤ 1048576 := fun x hx => by
  have h : x = a ∨ x = b ∨ x = c := by simpa using hx
  rcases h with rfl | rfl | rfl <;> assumption
theorem bl4 {a b c d : Bs} (h1 : a.length ≤ 1048576) (h2 : b.length ≤ 1048576) (h3 : c.length ≤ 1048576) (h4 : d.length ≤ 1048576) : ∀ x ∈ [a, b, c, d], x.length ≤ 1048576 := fun x hx => by
  have h : x = a ∨ x = b ∨ x = c ∨ x = d := by simpa using hx
  rcases h with rfl | rfl | rfl | rfl <;> assumption
theorem rqP {A : Bs} (hA : A.length ≤ 1048576) : Rq [[112, 101, 120, 112, 105, 114, 101, 97, 116], [107], A] 50 := ⟨by kernel_rfl, by simp, by simp, bl3 (by decide) (by decide) hA, by kernel_rfl⟩
theorem rqGT {A : Bs} (hA : A.length ≤ 1048576) : Rq [[112, 101, 120, 112, 105, 114, 101, 97, 116], [107], A, [71, 84]] 50 := ⟨by kernel_rfl, by simp, by simp, bl4 (by decide) (by decide) hA (by decide), by kernel_rfl⟩
theorem rqLT {A : Bs} (hA : A.length ≤ 1048576) : Rq [[112, 101, 120, 112, 105, 114, 101, 97, 116], [107], A, [76, 84]] 50 := ⟨by kernel_rfl, by simp, by simp, bl4 (by decide) (by decide) hA (by decide), by kernel_rfl⟩
theorem rqNX {A : Bs} (hA : A.length ≤ 1048576) : Rq [[112, 101, 120, 112, 105, 114, 101, 97, 116], [107], A, [78, 88]] 50 := ⟨by kernel_rfl, by simp, by simp, bl4 (by decide) (by decide) hA (by decide), by kernel_rfl⟩
theorem rq_pexpiretime : Rq [[112, 101, 120, 112, 105, 114, 101, 116, 105, 109, 101], [107]] 51 := ⟨by kernel_rfl, by decide, by decide, by decide, by kernel_rfl⟩
theorem rq_pttl : Rq [[112, 116, 116, 108], [107]] 53 := ⟨by kernel_rfl, by decide, by decide, by decide, by kernel_rfl⟩
theorem rq_ttl : Rq [[116, 116, 108], [107]] 58 := ⟨by kernel_rfl, by decide, by decide, by decide, by kernel_rfl⟩
theorem rq_exists : Rq [[101, 120, 105, 115, 116, 115], [107]] 42 := ⟨by kernel_rfl, by decide, by decide, by decide, by kernel_rfl⟩
theorem rq_persist : Rq [[112, 101, 114, 115, 105, 115, 116], [107]] 48 := ⟨by kernel_rfl, by decide, by decide, by decide, by kernel_rfl⟩
section
variable {F X : Nat → Prop} {b : Nat} {w : World} {q : Nat} {D N : Int}
theorem r_set (h : SP F X b w (A0)) (i : In D N) (hh : Has w) (hq : w.heap[q]? = some (.cells #[.string ⟨#[112, 101, 120, 112, 105, 114, 101, 97, 116]⟩, .string ⟨#[107]⟩, .string (mk (itoa D))] 9 (0, 0))) :
    Calls Tryz.prog 8 #[ptr b, .int .i64 N, .slice (some ⟨q, 0, none⟩) 3 3] w fun e w' => e = .returned (rp 3 ⟨#[]⟩ 1) ∧ Dn F X b w w' (A1 D) := by
  have ia := i.a; have ib := i.b; have ic := i.c; have id := i.d
  refine all_rq h N (by omega) (by omega) (sl_row [[112, 101, 120, 112, 105, 114, 101, 97, 116], [107], itoa D] hq) (rqP (itoa_bd i)) (fun args w => by kernel_rfl) 3 ⟨#[]⟩ 1 fun V a2 c2 X' hV hS hl => ?_
  have hp : prs (itoa D) = some D := prs_itoa i.i64
  have ht : (itoa D).length ≤ 140737488351232 := Nat.le_trans (itoa_bd i) (by decide)
  have e1 : (0 : Int) + D * 1 = D := by omega
  have e2 : D ≤ Int.tdiv (9007199254740992 - 0) 1 := by rw [Int.tdiv_one]; omega
  refine KExw.expireAtTick_call hS N a2 2 c2 fun V2 X2 hS2 hV2 => ?_
  refine (KExd.expire_set hS2 roomA0 ((hh.later hV).later hV2) N (by omega) (hl.below hV2) rfl (by show 1 ≤ 281474976710656; decide) ht 0 1 (m := D) hp (by decide) (.inl rfl) (by omega) e2 (by omega) (gA0 N) (by omega)).mono ?_
  rintro e w' ⟨rfl, d⟩
  rw [e1] at d
  exact ⟨rfl, d⟩
theorem r_gt (h : SP F X b w (A1 D)) (i : In D N) (hh : Has w) (hq : w.heap[q]? = some (.cells #[.string ⟨#[112, 101, 120, 112, 105, 114, 101, 97, 116]⟩, .string ⟨#[107]⟩, .string (mk (itoa D)), .string ⟨#[71, 84]⟩] 9 (0, 0))) :
    Calls Tryz.prog 8 #[ptr b, .int .i64 N, .slice (some ⟨q, 0, none⟩) 4 4] w fun e w' => e = .returned (rp 3 ⟨#[]⟩ 0) ∧ Dn F X b w w' (A1 D) := by
  have ia := i.a; have ib := i.b; have ic := i.c; have id := i.d
  refine all_rq h N (by omega) (by omega) (sl_row [[112, 101, 120, 112, 105, 114, 101, 97, 116], [107], itoa D, [71, 84]] hq) (rqGT (itoa_bd i)) (fun args w => by kernel_rfl) 3 ⟨#[]⟩ 0 fun V a2 c2 X' hV hS hl => ?_
  have hp : prs (itoa D) = some D := prs_itoa i.i64
  have ht : (itoa D).length ≤ 140737488351232 := Nat.le_trans (itoa_bd i) (by decide)
  have e1 : (0 : Int) + D * 1 = D := by omega
  have e2 : D ≤ Int.tdiv (9007199254740992 - 0) 1 := by rw [Int.tdiv_one]; omega
  refine KExw.expireAtTick_call hS N a2 3 c2 fun V2 X2 hS2 hV2 => ?_
  refine KExd.expire_bar hS2 ((hh.later hV).later hV2) N (by omega) (hl.below hV2) rfl (by show 1 ≤ 281474976710656; decide) ht 0 1 (m := D) hp (by decide) (.inl rfl) (by omega) e2 (by omega) (gA1 id) 4 (fun V3 a3 c3 hV3 hl3 => KExp.flags_gt hl3 (by show List.map Low.low [71, 84] = _; decide)) (fun V3 => ?_)
  rw [e1]
  exact KExp.bar_4 D D (by omega) (Int.le_refl _) V3
theorem r_lt (h : SP F X b w (A1 D)) (i : In D N) (hh : Has w) (hq : w.heap[q]? = some (.cells #[.string ⟨#[112, 101, 120, 112, 105, 114, 101, 97, 116]⟩, .string ⟨#[107]⟩, .string (mk (itoa D)), .string ⟨#[76, 84]⟩] 9 (0, 0))) :
    Calls Tryz.prog 8 #[ptr b, .int .i64 N, .slice (some ⟨q, 0, none⟩) 4 4] w fun e w' => e = .returned (rp 3 ⟨#[]⟩ 0) ∧ Dn F X b w w' (A1 D) := by
  have ia := i.a; have ib := i.b; have ic := i.c; have id := i.d
  refine all_rq h N (by omega) (by omega) (sl_row [[112, 101, 120, 112, 105, 114, 101, 97, 116], [107], itoa D, [76, 84]] hq) (rqLT (itoa_bd i)) (fun args w => by kernel_rfl) 3 ⟨#[]⟩ 0 fun V a2 c2 X' hV hS hl => ?_
  have hp : prs (itoa D) = some D := prs_itoa i.i64
  have ht : (itoa D).length ≤ 140737488351232 := Nat.le_trans (itoa_bd i) (by decide)
  have e1 : (0 : Int) + D * 1 = D := by omega
  have e2 : D ≤ Int.tdiv (9007199254740992 - 0) 1 := by rw [Int.tdiv_one]; omega
  refine KExw.expireAtTick_call hS N a2 3 c2 fun V2 X2 hS2 hV2 => ?_
  refine KExd.expire_bar hS2 ((hh.later hV).later hV2) N (by omega) (hl.below hV2) rfl (by show 1 ≤ 281474976710656; decide) ht 0 1 (m := D) hp (by decide) (.inl rfl) (by omega) e2 (by omega) (gA1 id) 8 (fun V3 a3 c3 hV3 hl3 => KExp.flags_lt hl3 (by show List.map Low.low [76, 84] = _; decide)) (fun V3 => ?_)
  rw [e1]
  exact KExp.bar_8 D D (by omega) (Int.le_refl _) V3
theorem r_nx (h : SP F X b w (A1 D)) (i : In D N) (hh : Has w) (hq : w.heap[q]? = some (.cells #[.string ⟨#[112, 101, 120, 112, 105, 114, 101, 97, 116]⟩, .string ⟨#[107]⟩, .string (mk (itoa D)), .string ⟨#[78, 88]⟩] 9 (0, 0))) :
    Calls Tryz.prog 8 #[ptr b, .int .i64 N, .slice (some ⟨q, 0, none⟩) 4 4] w fun e w' => e = .returned (rp 3 ⟨#[]⟩ 0) ∧ Dn F X b w w' (A1 D) := by
  have ia := i.a; have ib := i.b; have ic := i.c; have id := i.d
  refine all_rq h N (by omega) (by omega) (sl_row [[112, 101, 120, 112, 105, 114, 101, 97, 116], [107], itoa D, [78, 88]] hq) (rqNX (itoa_bd i)) (fun args w => by kernel_rfl) 3 ⟨#[]⟩ 0 fun V a2 c2 X' hV hS hl => ?_
  have hp : prs (itoa D) = some D := prs_itoa i.i64
  have ht : (itoa D).length ≤ 140737488351232 := Nat.le_trans (itoa_bd i) (by decide)
  have e1 : (0 : Int) + D * 1 = D := by omega
  have e2 : D ≤ Int.tdiv (9007199254740992 - 0) 1 := by rw [Int.tdiv_one]; omega
  refine KExw.expireAtTick_call hS N a2 3 c2 fun V2 X2 hS2 hV2 => ?_
  refine KExd.expire_bar hS2 ((hh.later hV).later hV2) N (by omega) (hl.below hV2) rfl (by show 1 ≤ 281474976710656; decide) ht 0 1 (m := D) hp (by decide) (.inl rfl) (by omega) e2 (by omega) (gA1 id) 1 (fun V3 a3 c3 hV3 hl3 => KExp.flags_nx hl3 (by show List.map Low.low [78, 88] = _; decide)) (fun V3 => ?_)
  rw [e1]
  exact KExp.bar_1 D D (by omega) V3
theorem r_drop (h : SP F X b w (A2)) (i : In D N) (hh : Has w) (hq : w.heap[q]? = some (.cells #[.string ⟨#[112, 101, 120, 112, 105, 114, 101, 97, 116]⟩, .string ⟨#[107]⟩, .string (mk (itoa D))] 9 (0, 0))) :
    Calls Tryz.prog 8 #[ptr b, .int .i64 D, .slice (some ⟨q, 0, none⟩) 3 3] w fun e w' => e = .returned (rp 3 ⟨#[]⟩ 1) ∧ Dn F X b w w' (A3) := by
  have ia := i.a; have ib := i.b; have ic := i.c; have id := i.d
  refine all_rq h D (by omega) (by omega) (sl_row [[112, 101, 120, 112, 105, 114, 101, 97, 116], [107], itoa D] hq) (rqP (itoa_bd i)) (fun args w => by kernel_rfl) 3 ⟨#[]⟩ 1 fun V a2 c2 X' hV hS hl => ?_
  have hp : prs (itoa D) = some D := prs_itoa i.i64
  have ht : (itoa D).length ≤ 140737488351232 := Nat.le_trans (itoa_bd i) (by decide)
  have e1 : (0 : Int) + D * 1 = D := by omega
  have e2 : D ≤ Int.tdiv (9007199254740992 - 0) 1 := by rw [Int.tdiv_one]; omega
  refine KExw.expireAtTick_call hS D a2 2 c2 fun V2 X2 hS2 hV2 => ?_
  refine (KExd.expire_drop hS2 roomA2 ((hh.later hV).later hV2) D (by omega) (hl.below hV2) rfl (by show 1 ≤ 281474976710656; decide) ht 0 1 (m := D) hp (by decide) (.inl rfl) (by omega) e2 (by omega) (gA2 D) (by omega)).mono ?_
  rintro e w' ⟨rfl, d⟩
  exact ⟨rfl, d⟩
theorem r_when (h : SP F X b w (A1 D)) (i : In D N) (hq : w.heap[q]? = some (.cells #[.string ⟨#[112, 101, 120, 112, 105, 114, 101, 116, 105, 109, 101]⟩, .string ⟨#[107]⟩] 9 (0, 0))) :
    Calls Tryz.prog 8 #[ptr b, .int .i64 N, .slice (some ⟨q, 0, none⟩) 2 2] w fun e w' => e = .returned (rp 3 ⟨#[]⟩ D) ∧ Dn F X b w w' (A1 D) := by
  have ia := i.a; have ib := i.b; have ic := i.c; have id := i.d
  refine all_rq h N (by omega) (by omega) (sl_row [[112, 101, 120, 112, 105, 114, 101, 116, 105, 109, 101], [107]] hq) rq_pexpiretime (fun args w => by kernel_rfl) 3 ⟨#[]⟩ D fun V a2 c2 X' hV hS hl => ?_
  refine (KTtl.dueInTicks_call hS N ⟨ic, by omega⟩ hl (by decide) (by decide)).mono ?_
  rintro e w' ⟨rfl, d⟩
  exact ⟨congrArg (fun z : Int => Ending.returned (rp 3 ⟨#[]⟩ z)) (by show ttlM (A1 D) N [107] 0 1 = D; rw [ttl_1 id ia]; omega), d⟩
theorem r_left (h : SP F X b w (A1 D)) (i : In D N) (hq : w.heap[q]? = some (.cells #[.string ⟨#[112, 116, 116, 108]⟩, .string ⟨#[107]⟩] 9 (0, 0))) :
    Calls Tryz.prog 8 #[ptr b, .int .i64 N, .slice (some ⟨q, 0, none⟩) 2 2] w fun e w' => e = .returned (rp 3 ⟨#[]⟩ (D - N)) ∧ Dn F X b w w' (A1 D) := by
  have ia := i.a; have ib := i.b; have ic := i.c; have id := i.d
  refine all_rq h N (by omega) (by omega) (sl_row [[112, 116, 116, 108], [107]] hq) rq_pttl (fun args w => by kernel_rfl) 3 ⟨#[]⟩ (D - N) fun V a2 c2 X' hV hS hl => ?_
  refine (KTtl.leftInTicks_call hS N ⟨ic, by omega⟩ hl (by decide) (by decide)).mono ?_
  rintro e w' ⟨rfl, d⟩
  exact ⟨congrArg (fun z : Int => Ending.returned (rp 3 ⟨#[]⟩ z)) (ttl_1 id ia), d⟩
theorem r_ttl (h : SP F X b w (A1 D)) (i : In D N) (hq : w.heap[q]? = some (.cells #[.string ⟨#[116, 116, 108]⟩, .string ⟨#[107]⟩] 9 (0, 0))) :
    Calls Tryz.prog 8 #[ptr b, .int .i64 N, .slice (some ⟨q, 0, none⟩) 2 2] w fun e w' => e = .returned (rp 3 ⟨#[]⟩ (secs D N)) ∧ Dn F X b w w' (A1 D) := by
  have ia := i.a; have ib := i.b; have ic := i.c; have id := i.d
  refine all_rq h N (by omega) (by omega) (sl_row [[116, 116, 108], [107]] hq) rq_ttl (fun args w => by kernel_rfl) 3 ⟨#[]⟩ (secs D N) fun V a2 c2 X' hV hS hl => ?_
  refine (KTtl.leftInSeconds_call hS N ⟨ic, by omega⟩ hl (by decide) (by decide)).mono ?_
  rintro e w' ⟨rfl, d⟩
  exact ⟨congrArg (fun z : Int => Ending.returned (rp 3 ⟨#[]⟩ z)) (ttl_s id ia), d⟩
theorem r_ex1 (h : SP F X b w (A1 D)) (i : In D N) (hq : w.heap[q]? = some (.cells #[.string ⟨#[101, 120, 105, 115, 116, 115]⟩, .string ⟨#[107]⟩] 9 (0, 0))) :
    Calls Tryz.prog 8 #[ptr b, .int .i64 (D - 1), .slice (some ⟨q, 0, none⟩) 2 2] w fun e w' => e = .returned (rp 3 ⟨#[]⟩ 1) ∧ Dn F X b w w' (A1 D) := by
  have ia := i.a; have ib := i.b; have ic := i.c; have id := i.d
  refine all_rq h (D - 1) (by omega) (by omega) (sl_row [[101, 120, 105, 115, 116, 115], [107]] hq) rq_exists (fun args w => by kernel_rfl) 3 ⟨#[]⟩ 1 fun V a2 c2 X' hV hS hl => ?_
  refine (KEx.exists_call hS (D - 1) hl (by decide) (by decide)).mono ?_
  rintro e w' ⟨rfl, d⟩
  exact ⟨congrArg (fun z : Int => Ending.returned (rp 3 ⟨#[]⟩ z)) (by show (exM (A1 D) (D - 1) [[107]] : Int) = 1; rw [ex_1 (by omega)]; rfl), d⟩
theorem r_ex0 (h : SP F X b w (A1 D)) (i : In D N) (hq : w.heap[q]? = some (.cells #[.string ⟨#[101, 120, 105, 115, 116, 115]⟩, .string ⟨#[107]⟩] 9 (0, 0))) :
    Calls Tryz.prog 8 #[ptr b, .int .i64 D, .slice (some ⟨q, 0, none⟩) 2 2] w fun e w' => e = .returned (rp 3 ⟨#[]⟩ 0) ∧ Dn F X b w w' (A1 D) := by
  have ia := i.a; have ib := i.b; have ic := i.c; have id := i.d
  refine all_rq h D (by omega) (by omega) (sl_row [[101, 120, 105, 115, 116, 115], [107]] hq) rq_exists (fun args w => by kernel_rfl) 3 ⟨#[]⟩ 0 fun V a2 c2 X' hV hS hl => ?_
  refine (KEx.exists_call hS D hl (by decide) (by decide)).mono ?_
  rintro e w' ⟨rfl, d⟩
  exact ⟨congrArg (fun z : Int => Ending.returned (rp 3 ⟨#[]⟩ z)) (by show (exM (A1 D) D [[107]] : Int) = 0; rw [ex_0 ia]; rfl), d⟩
theorem r_ttln (h : SP F X b w (A1 D)) (i : In D N) (hq : w.heap[q]? = some (.cells #[.string ⟨#[116, 116, 108]⟩, .string ⟨#[107]⟩] 9 (0, 0))) :
    Calls Tryz.prog 8 #[ptr b, .int .i64 D, .slice (some ⟨q, 0, none⟩) 2 2] w fun e w' => e = .returned (rp 3 ⟨#[]⟩ (-2)) ∧ Dn F X b w w' (A1 D) := by
  have ia := i.a; have ib := i.b; have ic := i.c; have id := i.d
  refine all_rq h D (by omega) (by omega) (sl_row [[116, 116, 108], [107]] hq) rq_ttl (fun args w => by kernel_rfl) 3 ⟨#[]⟩ (-2) fun V a2 c2 X' hV hS hl => ?_
  refine (KTtl.leftInSeconds_call hS D ⟨by omega, ib⟩ hl (by decide) (by decide)).mono ?_
  rintro e w' ⟨rfl, d⟩
  exact ⟨congrArg (fun z : Int => Ending.returned (rp 3 ⟨#[]⟩ z)) (ttl_n ia), d⟩
theorem r_per (h : SP F X b w (A1 D)) (i : In D N) (hq : w.heap[q]? = some (.cells #[.string ⟨#[112, 101, 114, 115, 105, 115, 116]⟩, .string ⟨#[107]⟩] 9 (0, 0))) :
    Calls Tryz.prog 8 #[ptr b, .int .i64 N, .slice (some ⟨q, 0, none⟩) 2 2] w fun e w' => e = .returned (rp 3 ⟨#[]⟩ 1) ∧ Dn F X b w w' (A2) := by
  have ia := i.a; have ib := i.b; have ic := i.c; have id := i.d
  refine all_rq h N (by omega) (by omega) (sl_row [[112, 101, 114, 115, 105, 115, 116], [107]] hq) rq_persist (fun args w => by kernel_rfl) 3 ⟨#[]⟩ 1 fun V a2 c2 X' hV hS hl => ?_
  refine (KPer.persist_yes hS (roomA1 D) N hl (by decide) (by decide) (gA1 id) (by show ¬ D = 0; omega)).mono ?_
  rintro e w' ⟨rfl, d⟩
  exact ⟨rfl, dn_cast d rfl⟩
theorem r_per0 (h : SP F X b w (A2)) (i : In D N) (hq : w.heap[q]? = some (.cells #[.string ⟨#[112, 101, 114, 115, 105, 115, 116]⟩, .string ⟨#[107]⟩] 9 (0, 0))) :
    Calls Tryz.prog 8 #[ptr b, .int .i64 N, .slice (some ⟨q, 0, none⟩) 2 2] w fun e w' => e = .returned (rp 3 ⟨#[]⟩ 0) ∧ Dn F X b w w' (A2) := by
  have ia := i.a; have ib := i.b; have ic := i.c; have id := i.d
  refine all_rq h N (by omega) (by omega) (sl_row [[112, 101, 114, 115, 105, 115, 116], [107]] hq) rq_persist (fun args w => by kernel_rfl) 3 ⟨#[]⟩ 0 fun V a2 c2 X' hV hS hl => ?_
  refine (KPer.persist_no hS N hl (by decide) (by decide) (by show dueV A2 N [107] = 0; unfold dueV; rw [gA2]; rfl)).mono ?_
  rintro e w' ⟨rfl, d⟩
  exact ⟨rfl, d⟩
theorem r_ttl2 (h : SP F X b w (A2)) (i : In D N) (hq : w.heap[q]? = some (.cells #[.string ⟨#[116, 116, 108]⟩, .string ⟨#[107]⟩] 9 (0, 0))) :
    Calls Tryz.prog 8 #[ptr b, .int .i64 D, .slice (some ⟨q, 0, none⟩) 2 2] w fun e w' => e = .returned (rp 3 ⟨#[]⟩ (-1)) ∧ Dn F X b w w' (A2) := by
  have ia := i.a; have ib := i.b; have ic := i.c; have id := i.d
  refine all_rq h D (by omega) (by omega) (sl_row [[116, 116, 108], [107]] hq) rq_ttl (fun args w => by kernel_rfl) 3 ⟨#[]⟩ (-1) fun V a2 c2 X' hV hS hl => ?_
  refine (KTtl.leftInSeconds_call hS D ⟨by omega, ib⟩ hl (by decide) (by decide)).mono ?_
  rintro e w' ⟨rfl, d⟩
  exact ⟨congrArg (fun z : Int => Ending.returned (rp 3 ⟨#[]⟩ z)) (ttl_2 D), d⟩
theorem r_ex3 (h : SP F X b w (A3)) (i : In D N) (hq : w.heap[q]? = some (.cells #[.string ⟨#[101, 120, 105, 115, 116, 115]⟩, .string ⟨#[107]⟩] 9 (0, 0))) :
    Calls Tryz.prog 8 #[ptr b, .int .i64 N, .slice (some ⟨q, 0, none⟩) 2 2] w fun e w' => e = .returned (rp 3 ⟨#[]⟩ 0) ∧ Dn F X b w w' (A3) := by
  have ia := i.a; have ib := i.b; have ic := i.c; have id := i.d
  refine all_rq h N (by omega) (by omega) (sl_row [[101, 120, 105, 115, 116, 115], [107]] hq) rq_exists (fun args w => by kernel_rfl) 3 ⟨#[]⟩ 0 fun V a2 c2 X' hV hS hl => ?_
  refine (KEx.exists_call hS N hl (by decide) (by decide)).mono ?_
  rintro e w' ⟨rfl, d⟩
  exact ⟨congrArg (fun z : Int => Ending.returned (rp 3 ⟨#[]⟩ z)) (by show (exM A3 N [[107]] : Int) = 0; rfl), d⟩
theorem put_k (h : SP F X b w S0) : Calls Tryz.prog 5 #[ptr b, .string ⟨#[107]⟩, .agg #[.int .i64 1, .string ⟨#[118]⟩, .slice none 0 0, .slice none 0 0, .slice none 0 0], .int .i64 0] w fun e w' => e = .returned (.int .i64 0) ∧ Dn F X b w w' A0 := by
  refine (SPut.put_ok h rfl (by decide) (by decide) [107] (by decide) (va_s [118] w) (wel_s (by decide)) (small_s _) (chk_s (by decide)) 0 (by decide)).mono ?_
  rintro e w' ⟨rfl, d⟩
  exact ⟨rfl, dn_cast d (by kernel_rfl)⟩
end
end Go.Proofs.YtminfpkigenahaaGreatDoor.KDl
end
