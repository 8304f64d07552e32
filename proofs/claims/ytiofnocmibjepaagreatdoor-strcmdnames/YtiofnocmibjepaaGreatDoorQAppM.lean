/- Commands on strings: APPEND. Requests of single commands, done. What must come whatever the input is (law17). What must come whatever the input is (law17). -/
import Derived.Test.YtiofnocmibjepaaGreatDoorQIncM
import Derived.BigQuiet
import Derived.Deep.RegionHeld3
import Derived.Test.YtiofnocmibjepaaGreatDoorQRunM
import Derived.Test.YtiofnocmibjepaaGreatDoorQGetM
import Derived.Test.YtiofnocmibjepaaGreatDoorQNumM
section
namespace Go.Proofs.YtiofnocmibjepaaGreatDoor.QApp
open Go.RowKit Go.Maps
open Go.Proofs.YtiofnocmibjepaaGreatDoor.SpaceMath (wout withL lkp keys Ris toD)
open Go.Proofs.YtiofnocmibjepaaGreatDoor.Base (mk mk_list mk_size Gr hid_of SL)
open Go.Proofs.YtiofnocmibjepaaGreatDoor.Turn
open Go.Proofs.YtiofnocmibjepaaGreatDoor.Vals
open Go.Proofs.YtiofnocmibjepaaGreatDoor.SBase
open Go.Proofs.YtiofnocmibjepaaGreatDoor.SFind
open Go.Proofs.YtiofnocmibjepaaGreatDoor.QBase
open Go.Proofs.YtiofnocmibjepaaGreatDoor.QCmd
open Go.Proofs.YtiofnocmibjepaaGreatDoor.QPut
open Go.Proofs.YtiofnocmibjepaaGreatDoor.QAdd
set_option linter.unusedVariables false
set_option linter.unusedSimpArgs false
theorem mk_app (t x : Bs) : mk t ++ mk x = mk (t ++ x) := by
  apply ByteArray.ext
  show (mk t ++ mk x).data = (mk (t ++ x)).data
  simp [mk]
section
variable {F X : Nat → Prop} {b : Nat} {w : World} {S : Sp}
set_option maxHeartbeats 4000000 in
set_option maxRecDepth 100000 in
theorem append_ok (h : SP F X b w S) (hr : Room S) (k x : Bs) (hk : k.length ≤ 281474976710656) (now : Int) {G : Nat → Prop} {a : Option Addr} {n c : Nat} {l : List Base.El} (hl : SL G w (.slice a n c) l) (hl0 : 1 < l.length) (hk0 : l[0] = k) (hk1 : l[1] = x) {tx : Bs} {qq : Bool} (hs : sa (gt S now k) = ⟨tx, qq, false⟩) (hT : (tx ++ x).length ≤ 1048576) :
    Calls Tryz.prog 27 #[cV b now a n c] w fun e w' => e = .returned (rp 3 ⟨#[]⟩ ((tx ++ x).length : Int)) ∧ Dn F X b w w' (pS S k (tx ++ x) (dueV S now k)) := by
  obtain ⟨ga, oa, rfl, hc1⟩ := sl_cell hl hl0
  obtain ⟨ga', oa', e', hc0⟩ := sl_cell hl (Nat.lt_of_succ_lt hl0)
  injection e' with e'
  injection e' with e1 e2
  subst e1 e2
  rw [hk1] at hc1
  rw [hk0, Nat.add_zero] at hc0
  have hga : ga < w.heap.size := Base.cell_lt hc0
  have hn1 : 1 < n := by
    obtain ⟨a', c', e', hc', -⟩ := hl
    injection e' with e1 e2 e3
    omega
  have hn0 : 0 < n := by omega
  obtain ⟨W, hW⟩ : ∃ W, W = (w.alloc (cO b now (some ⟨ga, oa, none⟩) n c)).alloc (rO 0 ⟨#[]⟩ 0 (.slice none 0 0)) := ⟨_, rfl⟩
  obtain ⟨bW, x0, x1, sW⟩ := two_boxes w (cO b now (some ⟨ga, oa, none⟩) n c) (rO 0 ⟨#[]⟩ 0 (.slice none 0 0)) ⟨_, _, rfl⟩
  rw [← hW] at bW x0 x1 sW
  have HH := hid_of h
  have HB := hid_of bW
  have HX0 := hid_of x0
  have HX1 := hid_of x1
  have HSW := hid_of sW
  have HW := hid_of hW
  have t1 : QPut.Tmp w W (w.heap.size + 1) := ⟨by omega, by rw [HSW.out]; omega⟩
  have H1 := hid_of (stringAt_call ((sp_wide h bW)) k hk now (some ⟨ga, oa, none⟩) n c)
  rw [hs] at H1
  simp only [show wt false = (⟨#[]⟩ : ByteArray) from rfl] at H1
  have hcat := mk_app tx x
  have hsz : (mk (tx ++ x)).size = (tx ++ x).length := mk_size _
  have hsum : (mk tx).size + (mk x).size ≤ 9223372036854775807 := by rw [mk_size, mk_size]; rw [List.length_append] at hT; omega
  have H3 := hid_of fun (V : World) => count_call ((tx ++ x).length : Int) V
  have H4 := hid_of fun (V : World) (hV : Below W.heap.size W V) => change_call ((sp_wide h bW).below hV) hr k hk (tx ++ x) hT now (some ⟨ga, oa, none⟩) n c 3 ⟨#[]⟩ ((tx ++ x).length : Int)
  have t0 : QPut.Tmp w W w.heap.size := ⟨Nat.le_refl _, by rw [HSW.out]; omega⟩
  have hW0 := hW
  clear hW bW x0 x1 sW h hs hT
  generalize pS S k (tx ++ x) (dueV S now k) = S' at *
  rw [← hsz] at H3 H4 ⊢
  clear hsz
  generalize mk (tx ++ x) = CT at *
  generalize mk tx = XX at *
  generalize mk x = YY at *
  go_enter Tryz.func27, Tryz.ntmps27
  go_wp2_with fail
  rw [← HW.out]
  refine H1.out.mono ?_
  rintro e w1 ⟨rfl, b1⟩
  obtain ⟨W1, hW1⟩ : ∃ W1, W1 = w1.alloc (hO XX qq) := ⟨_, rfl⟩
  have bW1 : Below w1.heap.size w1 W1 := by rw [hW1]; exact alb _ _
  have B1 := hid_of (FRow.bel b1 bW1 (Nat.le_refl _))
  have XH := hid_of (show W1.heap[w1.heap.size]? = some (hO XX qq) by rw [hW1]; exact heap_alloc_new w1 _)
  have HW1 := hid_of hW1
  clear b1 bW1 hW1 hW0
  go_wp2_with fail
  rw [← HW1.out]
  obtain ⟨⟨p0, p1⟩, -⟩ := box2 XH.out
  obtain ⟨⟨cc0, cc1, cc2⟩, -⟩ := box3 ((B1.out.block _ t0.2).trans HX0.out)
  have hcY := ((FRow.bel HB.out B1.out (Nat.le_refl _)).cell (p := ⟨ga, oa + 1, none⟩) hga).trans hc1
  go_quiet (fail)
  go_wp2_with fail
  obtain ⟨V1, hV1⟩ : ∃ V1, V1 = W1.drewN nq := ⟨_, rfl⟩
  have B2 := hid_of (show Below W.heap.size W V1 by rw [hV1]; exact FRow.bel B1.out (⟨rfl, rfl, rfl, Nat.le_refl _, fun _ _ => rfl⟩ : Below W1.heap.size W1 (W1.drewN nq)) (Nat.le_refl _))
  rw [← hV1]
  clear hV1
  have s0 : V1.drew.cell? ⟨w.heap.size, 0, none⟩ = some (ptr b) ∧ V1.drew.cell? ⟨w.heap.size, 1, none⟩ = some (.int .i64 now) ∧ V1.drew.cell? ⟨w.heap.size, 2, none⟩ = some (.slice (some ⟨ga, oa, none⟩) n c) := (box3 ((B2.out.block _ t0.2).trans HX0.out)).1
  go_region_held3 (fun V => V.cell? ⟨w.heap.size, 0, none⟩ = some (ptr b) ∧ V.cell? ⟨w.heap.size, 1, none⟩ = some (.int .i64 now) ∧ V.cell? ⟨w.heap.size, 2, none⟩ = some (.slice (some ⟨ga, oa, none⟩) n c)) (first | with_reducible exact s0 | with_reducible exact s1 | with_reducible exact s2 | with_reducible exact k2) (first
    | (go_at_call 71; refine (H3.out V1.drew).mono ?_; rintro e w3 ⟨rfl, b3⟩; have B3 := hid_of (FRow.bel B2.out (FRow.bel (Below.refl _ V1).drew b3 (Nat.le_refl _)) (Nat.le_refl _)); have s1 : w3.cell? ⟨w.heap.size, 0, none⟩ = some (ptr b) ∧ w3.cell? ⟨w.heap.size, 1, none⟩ = some (.int .i64 now) ∧ w3.cell? ⟨w.heap.size, 2, none⟩ = some (.slice (some ⟨ga, oa, none⟩) n c) := (box3 ((B3.out.block _ t0.2).trans HX0.out)).1; clear b3)
    | (go_at_call 70; refine (H4.out w3 B3.out).mono ?_; rintro e w4 ⟨rfl, d4⟩; have D4 := hid_of (SDrop.dn_after B3.out d4); have zz0 := (dn_block HH.out HB.out D4.out t0).trans HX0.out; have zz1 := (dn_block HH.out HB.out D4.out t1).trans HX1.out; have Z4 := hid_of zz1; have s2 : w4.cell? ⟨w.heap.size, 0, none⟩ = some (ptr b) ∧ w4.cell? ⟨w.heap.size, 1, none⟩ = some (.int .i64 now) ∧ w4.cell? ⟨w.heap.size, 2, none⟩ = some (.slice (some ⟨ga, oa, none⟩) n c) := (box3 zz0).1; have k2 : ((((w4.setCell ⟨w.heap.size + 1, 0, none⟩ (.int .i64 3)).setCell ⟨w.heap.size + 1, 1, none⟩ (.string ⟨#[]⟩)).setCell ⟨w.heap.size + 1, 2, none⟩ (.int .i64 (CT.size : Int))).setCell ⟨w.heap.size + 1, 3, none⟩ (.slice none 0 0)).cell? ⟨w.heap.size, 0, none⟩ = some (ptr b) ∧ ((((w4.setCell ⟨w.heap.size + 1, 0, none⟩ (.int .i64 3)).setCell ⟨w.heap.size + 1, 1, none⟩ (.string ⟨#[]⟩)).setCell ⟨w.heap.size + 1, 2, none⟩ (.int .i64 (CT.size : Int))).setCell ⟨w.heap.size + 1, 3, none⟩ (.slice none 0 0)).cell? ⟨w.heap.size, 1, none⟩ = some (.int .i64 now) ∧ ((((w4.setCell ⟨w.heap.size + 1, 0, none⟩ (.int .i64 3)).setCell ⟨w.heap.size + 1, 1, none⟩ (.string ⟨#[]⟩)).setCell ⟨w.heap.size + 1, 2, none⟩ (.int .i64 (CT.size : Int))).setCell ⟨w.heap.size + 1, 3, none⟩ (.slice none 0 0)).cell? ⟨w.heap.size, 2, none⟩ = some (.slice (some ⟨ga, oa, none⟩) n c) := (box3 ((fin4_ne (by omega)).trans zz0)).1; obtain ⟨⟨v0, v1, v2, v3⟩, fv⟩ := box4 zz1; have fv0 := fv 0; have fv1 := fv 1; have fv2 := fv 2; have fv3 := fv 3; clear fv zz0 zz1 d4))
  go_wp2_with fail
  have hz := fin4_at Z4.out (.int .i64 3) (.string ⟨#[]⟩) (.int .i64 (CT.size : Int)) (.slice none 0 0)
  have hdn := dn_tmp HH.out HB.out D4.out (ev_fin4 t1 (.int .i64 3) (.string ⟨#[]⟩) (.int .i64 (CT.size : Int)) (.slice none 0 0))
  unfold fin4 at hz hdn
  obtain ⟨⟨g0, g1, g2, g3⟩, -⟩ := box4 hz
  exact bodyPost_ret (v := rp 3 ⟨#[]⟩ (CT.size : Int)) (by simp [results, Tryz.results27, go_sem, g0, g1, g2, g3]) rfl ⟨rfl, hdn⟩
end
end Go.Proofs.YtiofnocmibjepaaGreatDoor.QApp
end
section
namespace Go.Proofs.YtiofnocmibjepaaGreatDoor.QDo
open Go.RowKit Go.Maps
open Go.Proofs.YtiofnocmibjepaaGreatDoor.SpaceMath
open Go.Proofs.YtiofnocmibjepaaGreatDoor.Base (mk mk_list mk_size Gr hid_of SL)
open Go.Proofs.YtiofnocmibjepaaGreatDoor.Turn
open Go.Proofs.YtiofnocmibjepaaGreatDoor.Vals
open Go.Proofs.YtiofnocmibjepaaGreatDoor.SBase
open Go.Proofs.YtiofnocmibjepaaGreatDoor.QBase
open Go.Proofs.YtiofnocmibjepaaGreatDoor.QCmd
open Go.Proofs.YtiofnocmibjepaaGreatDoor.QPut
open Go.Proofs.YtiofnocmibjepaaGreatDoor.QAdd
open Go.Proofs.YtiofnocmibjepaaGreatDoor.QInc
open Go.Proofs.YtiofnocmibjepaaGreatDoor.QRun
open Go.Proofs.YtiofnocmibjepaaGreatDoor.QMap (fnV cmdL)
open Go.Proofs.YtiofnocmibjepaaGreatDoor.Low (low)
open Go.Proofs.YtiofnocmibjepaaGreatDoor.RowOf (checkS)
open Go.Proofs.YtiofnocmibjepaaGreatDoor.Parse (Has)
set_option linter.unusedVariables false
set_option linter.unusedSimpArgs false
theorem tail0 {l : List Base.El} (h : 1 < l.length) (h' : 0 < l.tail.length) : l.tail[0] = l[1] := by
  cases l with
  | nil => simp at h
  | cons x r => rfl
theorem tail1 {l : List Base.El} (h : 2 < l.length) (h' : 1 < l.tail.length) : l.tail[1] = l[2] := by
  cases l with
  | nil => simp at h
  | cons x r => rfl
/-- what a request of a list of words wants -/
structure Rq (l : List Base.El) (f : FuncId) : Prop where
  ch : checkS l = []
  lo : 0 < l.length
  hi : l.length < 9223372036854775808
  bl : ∀ x ∈ l, x.length ≤ 140737488351232
  fn : lkp cmdL ((l.headD []).map low) = some (fnV f)
theorem Rq.fn0 {l : List Base.El} {f : FuncId} (h : Rq l f) (h0 : 0 < l.length) : lkp cmdL (l[0].map low) = some (fnV f) := by
  have := h.fn
  cases l with
  | nil => simp at h0
  | cons x r => exact this
section
variable {F X : Nat → Prop} {b : Nat} {w : World} {S : Sp}
theorem ent_increase : Ent 39 := Go.Proofs.enters_of Tryz.func39 (by kernel_rfl) rfl
theorem run_incr (h : SP F X b w S) (hr : Room S) (hh : Has w) (now : Int) {G : Nat → Prop} {a : Option Addr} {n c : Nat} {l : List Base.El} (hl : SL G w (.slice a n c) l) (hq : Rq l 39) (hn : 1 < l.length)  :
    Calls Tryz.prog 8 #[ptr b, .int .i64 now, .slice a n c] w fun e w' => e = .returned (.tuple #[rp3 (addM S now l[1] 1).1, .bool true]) ∧ Dn F X b w w' (addM S now l[1] 1).2 := by
  have hb : ∀ x ∈ l, x.length ≤ 281474976710656 := fun x hx => Nat.le_trans (hq.bl x hx) (by decide)
  have h1 : 1 < l.length := by omega
  have ht : 0 < l.tail.length := by rw [List.length_tail]; omega
  exact run_do h now hl hq.lo hq.hi hb hq.ch _ (hq.fn0 hq.lo) ent_increase _ (fun V a' c' hV hl' => increase_call (sp_wide h hV) hr (hh.later hV) l[1] (hb _ (List.getElem_mem h1)) now hl' ht (tail0 h1 ht))
theorem ent_increaseBy : Ent 40 := Go.Proofs.enters_of Tryz.func40 (by kernel_rfl) rfl
theorem run_incrby (h : SP F X b w S) (hr : Room S) (hh : Has w) (now : Int) {G : Nat → Prop} {a : Option Addr} {n c : Nat} {l : List Base.El} (hl : SL G w (.slice a n c) l) (hq : Rq l 40) (hn : 2 < l.length)  :
    Calls Tryz.prog 8 #[ptr b, .int .i64 now, .slice a n c] w fun e w' => e = .returned (.tuple #[rp3 (incrByM S now l[1] l[2]).1, .bool true]) ∧ Dn F X b w w' (incrByM S now l[1] l[2]).2 := by
  have hb : ∀ x ∈ l, x.length ≤ 281474976710656 := fun x hx => Nat.le_trans (hq.bl x hx) (by decide)
  have h1 : 1 < l.length := by omega
  have ht : 0 < l.tail.length := by rw [List.length_tail]; omega
  have ht1 : 1 < l.tail.length := by rw [List.length_tail]; omega
  exact run_do h now hl hq.lo hq.hi hb hq.ch _ (hq.fn0 hq.lo) ent_increaseBy _ (fun V a' c' hV hl' => increaseBy_call (sp_wide h hV) hr (hh.later hV) l[1] l[2] (hb _ (List.getElem_mem h1)) (Nat.le_trans (hq.bl _ (List.getElem_mem hn)) (by decide)) now hl' ht1 (tail0 h1 ht) (tail1 hn ht1))
theorem ent_decreaseBy : Ent 32 := Go.Proofs.enters_of Tryz.func32 (by kernel_rfl) rfl
theorem run_decrby (h : SP F X b w S) (hr : Room S) (hh : Has w) (now : Int) {G : Nat → Prop} {a : Option Addr} {n c : Nat} {l : List Base.El} (hl : SL G w (.slice a n c) l) (hq : Rq l 32) (hn : 2 < l.length)  :
    Calls Tryz.prog 8 #[ptr b, .int .i64 now, .slice a n c] w fun e w' => e = .returned (.tuple #[rp3 (decrByM S now l[1] l[2]).1, .bool true]) ∧ Dn F X b w w' (decrByM S now l[1] l[2]).2 := by
  have hb : ∀ x ∈ l, x.length ≤ 281474976710656 := fun x hx => Nat.le_trans (hq.bl x hx) (by decide)
  have h1 : 1 < l.length := by omega
  have ht : 0 < l.tail.length := by rw [List.length_tail]; omega
  have ht1 : 1 < l.tail.length := by rw [List.length_tail]; omega
  exact run_do h now hl hq.lo hq.hi hb hq.ch _ (hq.fn0 hq.lo) ent_decreaseBy _ (fun V a' c' hV hl' => decreaseBy_call (sp_wide h hV) hr (hh.later hV) l[1] l[2] (hb _ (List.getElem_mem h1)) (Nat.le_trans (hq.bl _ (List.getElem_mem hn)) (by decide)) now hl' ht1 (tail0 h1 ht) (tail1 hn ht1))
theorem ent_get : Ent 33 := Go.Proofs.enters_of Tryz.func33 (by kernel_rfl) rfl
theorem run_get (h : SP F X b w S) (hr : Room S) (hh : Has w) (now : Int) {G : Nat → Prop} {a : Option Addr} {n c : Nat} {l : List Base.El} (hl : SL G w (.slice a n c) l) (hq : Rq l 33) (hn : 1 < l.length)  :
    Calls Tryz.prog 8 #[ptr b, .int .i64 now, .slice a n c] w fun e w' => e = .returned (.tuple #[rp3 (QGet.getM (sa (gt S now l[1]))), .bool true]) ∧ Dn F X b w w' S := by
  have hb : ∀ x ∈ l, x.length ≤ 281474976710656 := fun x hx => Nat.le_trans (hq.bl x hx) (by decide)
  have h1 : 1 < l.length := by omega
  have ht : 0 < l.tail.length := by rw [List.length_tail]; omega
  exact run_do h now hl hq.lo hq.hi hb hq.ch _ (hq.fn0 hq.lo) ent_get _ (fun V a' c' hV hl' => QGet.get_call (sp_wide h hV) l[1] (hb _ (List.getElem_mem h1)) now hl' ht (tail0 h1 ht))
theorem ent_lengthen : Ent 27 := Go.Proofs.enters_of Tryz.func27 (by kernel_rfl) rfl
theorem run_append (h : SP F X b w S) (hr : Room S) (hh : Has w) (now : Int) {G : Nat → Prop} {a : Option Addr} {n c : Nat} {l : List Base.El} (hl : SL G w (.slice a n c) l) (hq : Rq l 27) (hn : 2 < l.length) {tx : SBase.Bs} {qq : Bool} (hs : sa (gt S now l[1]) = ⟨tx, qq, false⟩) (hT : (tx ++ l[2]).length ≤ 1048576) :
    Calls Tryz.prog 8 #[ptr b, .int .i64 now, .slice a n c] w fun e w' => e = .returned (.tuple #[rp3 (3, ⟨#[]⟩, ((tx ++ l[2]).length : Int)), .bool true]) ∧ Dn F X b w w' (pS S l[1] (tx ++ l[2]) (dueV S now l[1])) := by
  have hb : ∀ x ∈ l, x.length ≤ 281474976710656 := fun x hx => Nat.le_trans (hq.bl x hx) (by decide)
  have h1 : 1 < l.length := by omega
  have ht : 0 < l.tail.length := by rw [List.length_tail]; omega
  have ht1 : 1 < l.tail.length := by rw [List.length_tail]; omega
  exact run_do h now hl hq.lo hq.hi hb hq.ch _ (hq.fn0 hq.lo) ent_lengthen _ (fun V a' c' hV hl' => QApp.append_ok (sp_wide h hV) hr l[1] l[2] (hb _ (List.getElem_mem h1)) now hl' ht1 (tail0 h1 ht) (tail1 hn ht1) hs hT)
end
end Go.Proofs.YtiofnocmibjepaaGreatDoor.QDo
end
section
namespace Go.Proofs.YtiofnocmibjepaaGreatDoor.QAwake
open Go.RowKit Go.Maps
open Go.Lib (itoa)
open Go.Proofs.YtiofnocmibjepaaGreatDoor.SpaceMath
open Go.Proofs.YtiofnocmibjepaaGreatDoor.Base (mk mk_list mk_size Gr hid_of SL)
open Go.Proofs.YtiofnocmibjepaaGreatDoor.Turn
open Go.Proofs.YtiofnocmibjepaaGreatDoor.Vals
open Go.Proofs.YtiofnocmibjepaaGreatDoor.SBase
open Go.Proofs.YtiofnocmibjepaaGreatDoor.SFind (alb)
open Go.Proofs.YtiofnocmibjepaaGreatDoor.QBase
open Go.Proofs.YtiofnocmibjepaaGreatDoor.QCmd
open Go.Proofs.YtiofnocmibjepaaGreatDoor.QPut
open Go.Proofs.YtiofnocmibjepaaGreatDoor.QAdd
open Go.Proofs.YtiofnocmibjepaaGreatDoor.QNum
open Go.Proofs.YtiofnocmibjepaaGreatDoor.QDo
open Go.Proofs.YtiofnocmibjepaaGreatDoor.QMap (fnV cmdL)
open Go.Proofs.YtiofnocmibjepaaGreatDoor.Low (low)
open Go.Proofs.YtiofnocmibjepaaGreatDoor.RowOf (checkS)
open Go.Proofs.YtiofnocmibjepaaGreatDoor.Parse (Has)
set_option linter.unusedVariables false
set_option linter.unusedSimpArgs false
abbrev S0 : Sp := ⟨[], 0, none⟩
abbrev S1 : Sp := ⟨[([107], ⟨sV [49], 0, 1⟩)], 1, none⟩
abbrev S2 : Sp := ⟨[([107], ⟨sV [49, 48], 0, 2⟩)], 2, none⟩
theorem m1a : incM [48] 1 = .num 1 := by kernel_rfl
theorem m1b : pS S0 [107] (itoa 1) (dueV S0 0 [107]) = S1 := by kernel_rfl
theorem m1 : addM S0 0 [107] 1 = ((3, ⟨#[]⟩, 1), S1) := by
  unfold addM
  rw [show sa (gt S0 0 [107]) = ⟨[], false, false⟩ from rfl]
  simp only [Bool.false_eq_true, if_false, m1a, m1b]
theorem m2 : sa (gt S1 0 [107]) = ⟨[49], true, false⟩ := by rfl
theorem m2s : pS S1 [107] ([49] ++ [48]) (dueV S1 0 [107]) = S2 := by rfl
theorem m3 : QGet.getM (sa (gt S2 0 [107])) = (4, mk [49, 48], 0) := by rfl
theorem room0 : Room S0 := ⟨rfl, by decide, by decide⟩
theorem room1 : Room S1 := ⟨rfl, by decide, by decide⟩
/-- a row of words that was just made -/
theorem sl_row {W : World} {q : Nat} (l : List Base.El) (h : W.heap[q]? = some (.cells (l.map Base.V).toArray 9 (0, 0))) : SL (fun _ => True) W (.slice (some ⟨q, 0, none⟩) l.length l.length) l := by
  refine ⟨_, l.length, rfl, Nat.le_refl _, .inr ⟨q, 0, rfl, trivial, fun j x hj => ?_⟩⟩
  rw [Lib.cell_of_heap h, Nat.zero_add]
  simp [hj]
abbrev l1 : List Base.El := [[73, 78, 67, 82], [107]]
theorem rq1 : Rq l1 39 := ⟨by kernel_rfl, by decide, by decide, by decide, by kernel_rfl⟩
abbrev l2 : List Base.El := [[97, 112, 112, 101, 110, 100], [107], [48]]
theorem rq2 : Rq l2 27 := ⟨by kernel_rfl, by decide, by decide, by decide, by kernel_rfl⟩
abbrev l3 : List Base.El := [[103, 101, 116], [107]]
theorem rq3 : Rq l3 33 := ⟨by kernel_rfl, by decide, by decide, by decide, by kernel_rfl⟩
section
variable {F X : Nat → Prop} {b : Nat} {w : World}
theorem req1 (h : SP F X b w S0) (hh : Has w) {q : Nat} (hq : w.heap[q]? = some (.cells #[.string ⟨#[73,78,67,82]⟩, .string ⟨#[107]⟩] 9 (0, 0))) :
    Calls Tryz.prog 8 #[ptr b, .int .i64 0, .slice (some ⟨q, 0, none⟩) 2 2] w fun e w' => e = .returned (.tuple #[rp 3 ⟨#[]⟩ 1, .bool true]) ∧ Dn F X b w w' S1 := by
  have H := run_incr h room0 hh 0 (sl_row l1 hq) rq1 (by decide)
  rw [show l1[1] = [107] from rfl, m1] at H
  exact H
theorem req2 (h : SP F X b w S1) (hh : Has w) {q : Nat} (hq : w.heap[q]? = some (.cells #[.string ⟨#[97,112,112,101,110,100]⟩, .string ⟨#[107]⟩, .string ⟨#[48]⟩] 9 (0, 0))) :
    Calls Tryz.prog 8 #[ptr b, .int .i64 0, .slice (some ⟨q, 0, none⟩) 3 3] w fun e w' => e = .returned (.tuple #[rp 3 ⟨#[]⟩ 2, .bool true]) ∧ Dn F X b w w' S2 := by
  have H := run_append h room1 hh 0 (sl_row l2 hq) rq2 (by decide) (tx := [49]) (qq := true) m2 (by decide)
  rw [show l2[1] = [107] from rfl, show l2[2] = [48] from rfl, m2s] at H
  exact H
theorem req3 (h : SP F X b w S2) (hh : Has w) {q : Nat} (hq : w.heap[q]? = some (.cells #[.string ⟨#[103,101,116]⟩, .string ⟨#[107]⟩] 9 (0, 0))) :
    Calls Tryz.prog 8 #[ptr b, .int .i64 0, .slice (some ⟨q, 0, none⟩) 2 2] w fun e w' => e = .returned (.tuple #[rp 4 (mk [49, 48]) 0, .bool true]) ∧ Dn F X b w w' S2 := by
  have H := run_get h ⟨rfl, by decide, by decide⟩ hh 0 (sl_row l3 hq) rq3 (by decide)
  rw [show l3[1] = [107] from rfl, m3] at H
  exact H
end
end Go.Proofs.YtiofnocmibjepaaGreatDoor.QAwake
end
section
namespace Go.Proofs.YtiofnocmibjepaaGreatDoor.QAwk
open Go.RowKit Go.Maps
open Go.Proofs.YtiofnocmibjepaaGreatDoor.SpaceMath
open Go.Proofs.YtiofnocmibjepaaGreatDoor.Base (mk mk_list mk_size Gr hid_of SL)
open Go.Proofs.YtiofnocmibjepaaGreatDoor.Turn
open Go.Proofs.YtiofnocmibjepaaGreatDoor.Vals
open Go.Proofs.YtiofnocmibjepaaGreatDoor.SBase
open Go.Proofs.YtiofnocmibjepaaGreatDoor.SFind (alb)
open Go.Proofs.YtiofnocmibjepaaGreatDoor.QBase
open Go.Proofs.YtiofnocmibjepaaGreatDoor.QCmd
open Go.Proofs.YtiofnocmibjepaaGreatDoor.QPut
open Go.Proofs.YtiofnocmibjepaaGreatDoor.QAdd
open Go.Proofs.YtiofnocmibjepaaGreatDoor.QNum
open Go.Proofs.YtiofnocmibjepaaGreatDoor.QDo
open Go.Proofs.YtiofnocmibjepaaGreatDoor.QAwake
open Go.Proofs.YtiofnocmibjepaaGreatDoor.Parse (Has)
set_option linter.unusedVariables false
set_option linter.unusedSimpArgs false
abbrev zO : Obj := rO 0 ⟨#[]⟩ 0 (.slice none 0 0)
/-- a request's row of words, made; its answer, put into a new box -/
theorem boxed {F X : Nat → Prop} {b : Nat} {w0 W V w3 : World} {S S' : Sp} (h0 : SP F X b W S) (lo : Below w0.heap.size w0 W) (hi : ∀ k, F k → w0.heap.size ≤ k) (hb : Below W.heap.size W V)
    (h : Dn F (fun k => X k ∨ QPut.Tmp W V k) b V w3 S') (o : Obj) :
    ∃ F' X', Aft w0 W F b S' (w3.alloc o) F' X' ∧ ¬ F' w3.heap.size := by
  obtain ⟨F', X', q, hn, _⟩ := aft h0 lo hi hb h (Ev.of_below (alb w3 o)) (p := w3.heap.size) (.inr ⟨Nat.le_refl _, lt_of (heap_alloc_new w3 o)⟩)
  exact ⟨F', X', q, hn⟩
theorem bulk10 (V : World) : Calls Tryz.prog 17 #[rp 4 (mk [49, 48]) 0, .string ⟨#[49, 48]⟩] V fun e w' => e = .returned (.bool true) ∧ Below V.heap.size V w' := by
  have h := QNum.bulk_call 4 (mk [49, 48]) 0 ⟨#[49, 48]⟩ V
  have e : (mk [49, 48]).toList = (⟨#[49, 48]⟩ : ByteArray).toList := rfl
  rw [show decide ((4 : Int) = 4 ∧ (mk [49, 48]).toList = (⟨#[49, 48]⟩ : ByteArray).toList) = true from decide_eq_true ⟨rfl, e⟩] at h
  exact h
theorem num_ok (n : Int) (V : World) : Calls Tryz.prog 16 #[rp 3 ⟨#[]⟩ n, .int .i64 n] V fun e w' => e = .returned (.bool true) ∧ Below V.heap.size V w' := by
  have h := QNum.number_call 3 ⟨#[]⟩ n n V
  rw [show decide ((3 : Int) = 3 ∧ n = n) = true from decide_eq_true ⟨rfl, rfl⟩] at h
  exact h
set_option maxRecDepth 100000 in
set_option maxHeartbeats 8000000 in
theorem awake_call (w : World) (hh : Has w) : Calls Tryz.prog 7 #[] w fun e w' => e = .returned (.bool true) ∧ Below w.heap.size w w' := by
  have HHas := hid_of hh
  have HN := hid_of (STouch.new_call w)
  have HBu := hid_of bulk10
  have HN1 := hid_of fun (V : World) => num_ok 1 V
  have HN2 := hid_of fun (V : World) => num_ok 2 V
  have HR1 := hid_of fun (F X : Nat → Prop) (b : Nat) (V : World) (q : Nat) (h : SP F X b V S0) (hh : Has V) (hq : V.heap[q]? = some (.cells #[.string ⟨#[73, 78, 67, 82]⟩, .string ⟨#[107]⟩] 9 (0, 0))) => req1 h hh hq
  have HR2 := hid_of fun (F X : Nat → Prop) (b : Nat) (V : World) (q : Nat) (h : SP F X b V QAwake.S1) (hh : Has V) (hq : V.heap[q]? = some (.cells #[.string ⟨#[97, 112, 112, 101, 110, 100]⟩, .string ⟨#[107]⟩, .string ⟨#[48]⟩] 9 (0, 0))) => req2 h hh hq
  have HR3 := hid_of fun (F X : Nat → Prop) (b : Nat) (V : World) (q : Nat) (h : SP F X b V S2) (hh : Has V) (hq : V.heap[q]? = some (.cells #[.string ⟨#[103, 101, 116]⟩, .string ⟨#[107]⟩] 9 (0, 0))) => req3 h hh hq
  generalize mk [49, 48] = TT at *
  clear hh
  go_enter Tryz.func7, Tryz.ntmps7
  go_wp2_with fail
  refine HN.out.mono ?_
  rintro e w1 ⟨F1, rfl, hsp, hb1, hF⟩
  have HSP1 := hid_of (show ∃ X, SP F1 X w.heap.size w1 S0 from ⟨_, hsp⟩)
  have HB1 := hid_of hb1
  have HF1 := hid_of hF
  have HH1 := hid_of (HHas.out.later hb1)
  clear hsp hb1 hF HN
  obtain ⟨X1, hsp1⟩ := HSP1.out
  obtain ⟨V1, hV1⟩ : ∃ V, V = w1.alloc (.cells #[.string ⟨#[73, 78, 67, 82]⟩, .string ⟨#[107]⟩] 9) := ⟨_, rfl⟩
  have bV1 : Below w1.heap.size w1 V1 := by rw [hV1]; exact alb _ _
  have HQ1 := hid_of (HR1.out _ _ _ _ w1.heap.size (sp_wide hsp1 bV1) (HH1.out.later bV1) (by rw [hV1]; exact heap_alloc_new w1 _))
  have HW1 := hid_of hV1
  have HbV1 := hid_of bV1
  have HSQ1 := hid_of hsp1
  clear hV1 bV1 hsp1
  go_wp2_with fail
  rw [← HW1.out]
  refine HQ1.out.mono ?_
  rintro e u1 ⟨rfl, d1⟩
  have HA1 := hid_of (boxed HSQ1.out HB1.out HF1.out HbV1.out d1 (rO 3 ⟨#[]⟩ 1 (.slice none 0 0)))
  have hle1 : w1.heap.size ≤ u1.heap.size := by have := HbV1.out.size; have := dn_size d1; omega
  have HZ1 := hid_of (heap_alloc_new u1 (rO 3 ⟨#[]⟩ 1 (.slice none 0 0)))
  clear d1 HQ1
  obtain ⟨w2, hw2⟩ : ∃ W, W = u1.alloc (rO 3 ⟨#[]⟩ 1 (.slice none 0 0)) := ⟨_, rfl⟩
  rw [← hw2] at HA1 HZ1
  have hsz1 : w2.heap.size = u1.heap.size + 1 := by rw [hw2]; simp
  have HW1b := hid_of hw2
  obtain ⟨F2, X2, ha, hn1⟩ := HA1.out
  have HSP2 := hid_of (show ∃ X, SP F2 X w.heap.size w2 QAwake.S1 from ⟨_, ha.sp⟩)
  have HB2 := hid_of ha.lo
  have HF2 := hid_of ha.hi
  have HH2 := hid_of (HHas.out.later ha.lo)
  have hlt1 : u1.heap.size < w2.heap.size := lt_of HZ1.out
  have HNF1 := hid_of hn1
  clear ha hn1 HA1 hw2
  obtain ⟨X2, hsp2⟩ := HSP2.out
  obtain ⟨V2, hV2⟩ : ∃ V, V = w2.alloc (.cells #[.string ⟨#[97, 112, 112, 101, 110, 100]⟩, .string ⟨#[107]⟩, .string ⟨#[48]⟩] 9) := ⟨_, rfl⟩
  have bV2 : Below w2.heap.size w2 V2 := by rw [hV2]; exact alb _ _
  have HQ2 := hid_of (HR2.out _ _ _ _ (u1.heap.size + 1) (sp_wide hsp2 bV2) (HH2.out.later bV2) (by rw [hV2, ← hsz1]; exact heap_alloc_new w2 _))
  have HW2 := hid_of hV2
  have HbV2 := hid_of bV2
  have HSQ2 := hid_of hsp2
  clear hV2 bV2 hsp2
  go_wp2_with fail
  rw [← HW1b.out]
  clear HW1b
  rw [← HW2.out]
  refine HQ2.out.mono ?_
  rintro e u2 ⟨rfl, d2⟩
  have HA2 := hid_of (boxed HSQ2.out HB2.out HF2.out HbV2.out d2 (rO 3 ⟨#[]⟩ 2 (.slice none 0 0)))
  have hle2 : w2.heap.size ≤ u2.heap.size := by have := HbV2.out.size; have := dn_size d2; omega
  have HZ2 := hid_of (heap_alloc_new u2 (rO 3 ⟨#[]⟩ 2 (.slice none 0 0)))
  clear d2 HQ2
  obtain ⟨w3, hw3⟩ : ∃ W, W = u2.alloc (rO 3 ⟨#[]⟩ 2 (.slice none 0 0)) := ⟨_, rfl⟩
  rw [← hw3] at HA2 HZ2
  have hsz2 : w3.heap.size = u2.heap.size + 1 := by rw [hw3]; simp
  have HW2b := hid_of hw3
  obtain ⟨F3, X3, ha, hn2⟩ := HA2.out
  have HSP3 := hid_of (show ∃ X, SP F3 X w.heap.size w3 S2 from ⟨_, ha.sp⟩)
  have HB3 := hid_of ha.lo
  have HF3 := hid_of ha.hi
  have HH3 := hid_of (HHas.out.later ha.lo)
  have hlt2 : u2.heap.size < w3.heap.size := lt_of HZ2.out
  have HZ1' := hid_of ((ha.stay u1.heap.size (by omega) HNF1.out).trans HZ1.out)
  have HNF1' := hid_of (show ¬ F3 u1.heap.size from fun q => by rcases ha.new _ q with q | q; exact HNF1.out q; omega)
  clear HZ1 HNF1
  have HZ1 := HZ1'
  have HNF1 := HNF1'
  clear HZ1' HNF1'
  have HNF2 := hid_of hn2
  clear ha hn2 HA2 hw3
  obtain ⟨X3, hsp3⟩ := HSP3.out
  obtain ⟨V3, hV3⟩ : ∃ V, V = w3.alloc (.cells #[.string ⟨#[103, 101, 116]⟩, .string ⟨#[107]⟩] 9) := ⟨_, rfl⟩
  have bV3 : Below w3.heap.size w3 V3 := by rw [hV3]; exact alb _ _
  have HQ3 := hid_of (HR3.out _ _ _ _ (u2.heap.size + 1) (sp_wide hsp3 bV3) (HH3.out.later bV3) (by rw [hV3, ← hsz2]; exact heap_alloc_new w3 _))
  have HW3 := hid_of hV3
  have HbV3 := hid_of bV3
  have HSQ3 := hid_of hsp3
  clear hV3 bV3 hsp3
  go_wp2_with fail
  rw [← HW2b.out]
  clear HW2b
  rw [← HW3.out]
  refine HQ3.out.mono ?_
  rintro e u3 ⟨rfl, d3⟩
  have HA3 := hid_of (boxed HSQ3.out HB3.out HF3.out HbV3.out d3 (rO 4 TT 0 (.slice none 0 0)))
  have hle3 : w3.heap.size ≤ u3.heap.size := by have := HbV3.out.size; have := dn_size d3; omega
  have HZ3 := hid_of (heap_alloc_new u3 (rO 4 TT 0 (.slice none 0 0)))
  clear d3 HQ3
  obtain ⟨w4, hw4⟩ : ∃ W, W = u3.alloc (rO 4 TT 0 (.slice none 0 0)) := ⟨_, rfl⟩
  rw [← hw4] at HA3 HZ3
  have hsz3 : w4.heap.size = u3.heap.size + 1 := by rw [hw4]; simp
  have HW3b := hid_of hw4
  obtain ⟨F4, X4, ha, hn3⟩ := HA3.out
  have HSP4 := hid_of (show ∃ X, SP F4 X w.heap.size w4 S2 from ⟨_, ha.sp⟩)
  have HB4 := hid_of ha.lo
  have HF4 := hid_of ha.hi
  have HH4 := hid_of (HHas.out.later ha.lo)
  have hlt3 : u3.heap.size < w4.heap.size := lt_of HZ3.out
  have HZ1' := hid_of ((ha.stay u1.heap.size (by omega) HNF1.out).trans HZ1.out)
  have HNF1' := hid_of (show ¬ F4 u1.heap.size from fun q => by rcases ha.new _ q with q | q; exact HNF1.out q; omega)
  clear HZ1 HNF1
  have HZ1 := HZ1'
  have HNF1 := HNF1'
  clear HZ1' HNF1'
  have HZ2' := hid_of ((ha.stay u2.heap.size (by omega) HNF2.out).trans HZ2.out)
  have HNF2' := hid_of (show ¬ F4 u2.heap.size from fun q => by rcases ha.new _ q with q | q; exact HNF2.out q; omega)
  clear HZ2 HNF2
  have HZ2 := HZ2'
  have HNF2 := HNF2'
  clear HZ2' HNF2'
  have HNF3 := hid_of hn3
  clear ha hn3 HA3 hw4
  have l1 : u1.heap.size < u3.heap.size := by omega
  have g1 : u3.heap[u1.heap.size]? = some (rO 3 ⟨#[]⟩ 1 (.slice none 0 0)) := by
    have h := HZ1.out
    rw [HW3b.out, Below.heap_alloc _ _ _ (by omega)] at h
    exact h
  obtain ⟨⟨p0, p1, p2, p3⟩, -⟩ := box4 g1
  go_wp2_with fail
  rw [← HW3b.out]
  refine (HN1.out w4).mono ?_
  rintro e w5 ⟨rfl, b5⟩
  obtain ⟨⟨q0, q1, q2, q3⟩, -⟩ := box4 ((b5.block _ (lt_of HZ2.out)).trans HZ2.out)
  have HZ3b := hid_of ((b5.block _ (lt_of HZ3.out)).trans HZ3.out)
  have B5 := hid_of (HB4.out.trans (b5.mono HB4.out.size))
  clear b5
  go_wp2_with fail
  refine (HN2.out w5).mono ?_
  rintro e w6 ⟨rfl, b6⟩
  obtain ⟨⟨r0, r1, r2, r3⟩, -⟩ := box4 ((b6.block _ (lt_of HZ3b.out)).trans HZ3b.out)
  have B6 := hid_of (B5.out.trans (b6.mono B5.out.size))
  clear b6
  go_wp2_with fail
  refine (HBu.out w6).mono ?_
  rintro e w7 ⟨rfl, b7⟩
  go_wp2_with fail
  exact bodyPost_ret (v := .bool true) (by simp [results, Tryz.results7, go_sem]) rfl ⟨rfl, B6.out.trans (b7.mono B6.out.size)⟩
end Go.Proofs.YtiofnocmibjepaaGreatDoor.QAwk
end
