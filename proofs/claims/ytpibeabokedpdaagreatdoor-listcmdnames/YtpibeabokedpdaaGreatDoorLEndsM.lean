/- The commands that call one method: pushLast, pushFirst, popFirst, popLast, .. Requests on lists: what is pushed, what is told. What must come whatever the input is (law19). -/
import Derived.Test.YtpibeabokedpdaaGreatDoorLLawM
import Derived.Test.YtpibeabokedpdaaGreatDoorSSetM
section
namespace Go.Proofs.YtpibeabokedpdaaGreatDoor.LEnds
open Go.RowKit Go.Maps
open Go.Proofs.YtpibeabokedpdaaGreatDoor.Base (mk mk_list mk_size Gr hid_of SL)
open Go.Proofs.YtpibeabokedpdaaGreatDoor.Turn
open Go.Proofs.YtpibeabokedpdaaGreatDoor.SBase
open Go.Proofs.YtpibeabokedpdaaGreatDoor.SFind
open Go.Proofs.YtpibeabokedpdaaGreatDoor.QBase
open Go.Proofs.YtpibeabokedpdaaGreatDoor.LCmd
set_option linter.unusedVariables false
set_option linter.unusedSimpArgs false
section
variable {F X : Nat → Prop} {b : Nat} {w : World} {S S' : Sp}
set_option maxHeartbeats 2000000 in
set_option maxRecDepth 100000 in
theorem pushFirst_call (h : SP F X b w S) (now : Int) (a : Option Addr) (n c : Nat) (rk : Int) (rT : ByteArray) (rn : Int) (la : Option Addr) (ln lc : Nat)
    (hc : ∀ V, Below w.heap.size w V → Calls Tryz.prog 81 #[cV b now a n c, .int .i64 0] V fun e w' => e = .returned (.agg #[.int .i64 rk, .string rT, .int .i64 rn, .slice la ln lc]) ∧ Dn F (fun k => X k ∨ LCmd.Tmp w V k) b V w' S') :
    Calls Tryz.prog 35 #[cV b now a n c] w fun e w' => e = .returned (.agg #[.int .i64 rk, .string rT, .int .i64 rn, .slice la ln lc]) ∧ Dn F X b w w' S' := by
  obtain ⟨W, hW⟩ : ∃ W, W = (w.alloc (cO b now a n c)).alloc (rO 0 ⟨#[]⟩ 0 (.slice none 0 0)) := ⟨_, rfl⟩
  obtain ⟨bW, x0, x1, sW⟩ := two_boxes w (cO b now a n c) (rO 0 ⟨#[]⟩ 0 (.slice none 0 0)) ⟨_, _, rfl⟩
  rw [← hW] at bW x0 x1 sW
  have H1 := hid_of (hc W bW)
  have HH := hid_of h
  have HB := hid_of bW
  have HX1 := hid_of x1
  have HSW := hid_of sW
  have HW := hid_of hW
  clear hW bW x0 x1 sW h hc
  go_enter Tryz.func35, Tryz.ntmps35
  go_wp2_with fail
  rw [← HW.out]
  refine H1.out.mono ?_
  rintro e w5 ⟨rfl, d5⟩
  have t1 : LCmd.Tmp w W (w.heap.size + 1) := ⟨by omega, by rw [HSW.out]; omega⟩
  have z5 := (dn_block HH.out HB.out d5 t1).trans HX1.out
  have D5 := hid_of d5
  obtain ⟨⟨v0, v1, v2, v3⟩, fv⟩ := box4 z5
  have fv0 := fv 0; have fv1 := fv 1; have fv2 := fv 2; have fv3 := fv 3
  have hz := fin4_at z5 (.int .i64 rk) (.string rT) (.int .i64 rn) (.slice la ln lc)
  have hdn := dn_tmp HH.out HB.out D5.out (ev_fin4 t1 (.int .i64 rk) (.string rT) (.int .i64 rn) (.slice la ln lc))
  unfold fin4 at hz hdn
  clear fv z5 d5 H1
  go_wp2_with fail
  obtain ⟨⟨g0, g1, g2, g3⟩, -⟩ := box4 hz
  exact bodyPost_ret (v := .agg #[.int .i64 rk, .string rT, .int .i64 rn, .slice la ln lc]) (by simp [results, Tryz.results35, go_sem, g0, g1, g2, g3]) rfl ⟨rfl, hdn⟩
set_option maxHeartbeats 2000000 in
set_option maxRecDepth 100000 in
theorem pushLast_call (h : SP F X b w S) (now : Int) (a : Option Addr) (n c : Nat) (rk : Int) (rT : ByteArray) (rn : Int) (la : Option Addr) (ln lc : Nat)
    (hc : ∀ V, Below w.heap.size w V → Calls Tryz.prog 81 #[cV b now a n c, .int .i64 1] V fun e w' => e = .returned (.agg #[.int .i64 rk, .string rT, .int .i64 rn, .slice la ln lc]) ∧ Dn F (fun k => X k ∨ LCmd.Tmp w V k) b V w' S') :
    Calls Tryz.prog 43 #[cV b now a n c] w fun e w' => e = .returned (.agg #[.int .i64 rk, .string rT, .int .i64 rn, .slice la ln lc]) ∧ Dn F X b w w' S' := by
  obtain ⟨W, hW⟩ : ∃ W, W = (w.alloc (cO b now a n c)).alloc (rO 0 ⟨#[]⟩ 0 (.slice none 0 0)) := ⟨_, rfl⟩
  obtain ⟨bW, x0, x1, sW⟩ := two_boxes w (cO b now a n c) (rO 0 ⟨#[]⟩ 0 (.slice none 0 0)) ⟨_, _, rfl⟩
  rw [← hW] at bW x0 x1 sW
  have H1 := hid_of (hc W bW)
  have HH := hid_of h
  have HB := hid_of bW
  have HX1 := hid_of x1
  have HSW := hid_of sW
  have HW := hid_of hW
  clear hW bW x0 x1 sW h hc
  go_enter Tryz.func43, Tryz.ntmps43
  go_wp2_with fail
  rw [← HW.out]
  refine H1.out.mono ?_
  rintro e w5 ⟨rfl, d5⟩
  have t1 : LCmd.Tmp w W (w.heap.size + 1) := ⟨by omega, by rw [HSW.out]; omega⟩
  have z5 := (dn_block HH.out HB.out d5 t1).trans HX1.out
  have D5 := hid_of d5
  obtain ⟨⟨v0, v1, v2, v3⟩, fv⟩ := box4 z5
  have fv0 := fv 0; have fv1 := fv 1; have fv2 := fv 2; have fv3 := fv 3
  have hz := fin4_at z5 (.int .i64 rk) (.string rT) (.int .i64 rn) (.slice la ln lc)
  have hdn := dn_tmp HH.out HB.out D5.out (ev_fin4 t1 (.int .i64 rk) (.string rT) (.int .i64 rn) (.slice la ln lc))
  unfold fin4 at hz hdn
  clear fv z5 d5 H1
  go_wp2_with fail
  obtain ⟨⟨g0, g1, g2, g3⟩, -⟩ := box4 hz
  exact bodyPost_ret (v := .agg #[.int .i64 rk, .string rT, .int .i64 rn, .slice la ln lc]) (by simp [results, Tryz.results43, go_sem, g0, g1, g2, g3]) rfl ⟨rfl, hdn⟩
set_option maxHeartbeats 2000000 in
set_option maxRecDepth 100000 in
theorem pushFirstIfThere_call (h : SP F X b w S) (now : Int) (a : Option Addr) (n c : Nat) (rk : Int) (rT : ByteArray) (rn : Int) (la : Option Addr) (ln lc : Nat)
    (hc : ∀ V, Below w.heap.size w V → Calls Tryz.prog 82 #[cV b now a n c, .int .i64 0] V fun e w' => e = .returned (.agg #[.int .i64 rk, .string rT, .int .i64 rn, .slice la ln lc]) ∧ Dn F (fun k => X k ∨ LCmd.Tmp w V k) b V w' S') :
    Calls Tryz.prog 36 #[cV b now a n c] w fun e w' => e = .returned (.agg #[.int .i64 rk, .string rT, .int .i64 rn, .slice la ln lc]) ∧ Dn F X b w w' S' := by
  obtain ⟨W, hW⟩ : ∃ W, W = (w.alloc (cO b now a n c)).alloc (rO 0 ⟨#[]⟩ 0 (.slice none 0 0)) := ⟨_, rfl⟩
  obtain ⟨bW, x0, x1, sW⟩ := two_boxes w (cO b now a n c) (rO 0 ⟨#[]⟩ 0 (.slice none 0 0)) ⟨_, _, rfl⟩
  rw [← hW] at bW x0 x1 sW
  have H1 := hid_of (hc W bW)
  have HH := hid_of h
  have HB := hid_of bW
  have HX1 := hid_of x1
  have HSW := hid_of sW
  have HW := hid_of hW
  clear hW bW x0 x1 sW h hc
  go_enter Tryz.func36, Tryz.ntmps36
  go_wp2_with fail
  rw [← HW.out]
  refine H1.out.mono ?_
  rintro e w5 ⟨rfl, d5⟩
  have t1 : LCmd.Tmp w W (w.heap.size + 1) := ⟨by omega, by rw [HSW.out]; omega⟩
  have z5 := (dn_block HH.out HB.out d5 t1).trans HX1.out
  have D5 := hid_of d5
  obtain ⟨⟨v0, v1, v2, v3⟩, fv⟩ := box4 z5
  have fv0 := fv 0; have fv1 := fv 1; have fv2 := fv 2; have fv3 := fv 3
  have hz := fin4_at z5 (.int .i64 rk) (.string rT) (.int .i64 rn) (.slice la ln lc)
  have hdn := dn_tmp HH.out HB.out D5.out (ev_fin4 t1 (.int .i64 rk) (.string rT) (.int .i64 rn) (.slice la ln lc))
  unfold fin4 at hz hdn
  clear fv z5 d5 H1
  go_wp2_with fail
  obtain ⟨⟨g0, g1, g2, g3⟩, -⟩ := box4 hz
  exact bodyPost_ret (v := .agg #[.int .i64 rk, .string rT, .int .i64 rn, .slice la ln lc]) (by simp [results, Tryz.results36, go_sem, g0, g1, g2, g3]) rfl ⟨rfl, hdn⟩
set_option maxHeartbeats 2000000 in
set_option maxRecDepth 100000 in
theorem pushLastIfThere_call (h : SP F X b w S) (now : Int) (a : Option Addr) (n c : Nat) (rk : Int) (rT : ByteArray) (rn : Int) (la : Option Addr) (ln lc : Nat)
    (hc : ∀ V, Below w.heap.size w V → Calls Tryz.prog 82 #[cV b now a n c, .int .i64 1] V fun e w' => e = .returned (.agg #[.int .i64 rk, .string rT, .int .i64 rn, .slice la ln lc]) ∧ Dn F (fun k => X k ∨ LCmd.Tmp w V k) b V w' S') :
    Calls Tryz.prog 44 #[cV b now a n c] w fun e w' => e = .returned (.agg #[.int .i64 rk, .string rT, .int .i64 rn, .slice la ln lc]) ∧ Dn F X b w w' S' := by
  obtain ⟨W, hW⟩ : ∃ W, W = (w.alloc (cO b now a n c)).alloc (rO 0 ⟨#[]⟩ 0 (.slice none 0 0)) := ⟨_, rfl⟩
  obtain ⟨bW, x0, x1, sW⟩ := two_boxes w (cO b now a n c) (rO 0 ⟨#[]⟩ 0 (.slice none 0 0)) ⟨_, _, rfl⟩
  rw [← hW] at bW x0 x1 sW
  have H1 := hid_of (hc W bW)
  have HH := hid_of h
  have HB := hid_of bW
  have HX1 := hid_of x1
  have HSW := hid_of sW
  have HW := hid_of hW
  clear hW bW x0 x1 sW h hc
  go_enter Tryz.func44, Tryz.ntmps44
  go_wp2_with fail
  rw [← HW.out]
  refine H1.out.mono ?_
  rintro e w5 ⟨rfl, d5⟩
  have t1 : LCmd.Tmp w W (w.heap.size + 1) := ⟨by omega, by rw [HSW.out]; omega⟩
  have z5 := (dn_block HH.out HB.out d5 t1).trans HX1.out
  have D5 := hid_of d5
  obtain ⟨⟨v0, v1, v2, v3⟩, fv⟩ := box4 z5
  have fv0 := fv 0; have fv1 := fv 1; have fv2 := fv 2; have fv3 := fv 3
  have hz := fin4_at z5 (.int .i64 rk) (.string rT) (.int .i64 rn) (.slice la ln lc)
  have hdn := dn_tmp HH.out HB.out D5.out (ev_fin4 t1 (.int .i64 rk) (.string rT) (.int .i64 rn) (.slice la ln lc))
  unfold fin4 at hz hdn
  clear fv z5 d5 H1
  go_wp2_with fail
  obtain ⟨⟨g0, g1, g2, g3⟩, -⟩ := box4 hz
  exact bodyPost_ret (v := .agg #[.int .i64 rk, .string rT, .int .i64 rn, .slice la ln lc]) (by simp [results, Tryz.results44, go_sem, g0, g1, g2, g3]) rfl ⟨rfl, hdn⟩
set_option maxHeartbeats 2000000 in
set_option maxRecDepth 100000 in
theorem popFirst_call (h : SP F X b w S) (now : Int) (a : Option Addr) (n c : Nat) (rk : Int) (rT : ByteArray) (rn : Int) (la : Option Addr) (ln lc : Nat)
    (hc : ∀ V, Below w.heap.size w V → Calls Tryz.prog 77 #[cV b now a n c, .int .i64 0] V fun e w' => e = .returned (.agg #[.int .i64 rk, .string rT, .int .i64 rn, .slice la ln lc]) ∧ Dn F (fun k => X k ∨ LCmd.Tmp w V k) b V w' S') :
    Calls Tryz.prog 33 #[cV b now a n c] w fun e w' => e = .returned (.agg #[.int .i64 rk, .string rT, .int .i64 rn, .slice la ln lc]) ∧ Dn F X b w w' S' := by
  obtain ⟨W, hW⟩ : ∃ W, W = (w.alloc (cO b now a n c)).alloc (rO 0 ⟨#[]⟩ 0 (.slice none 0 0)) := ⟨_, rfl⟩
  obtain ⟨bW, x0, x1, sW⟩ := two_boxes w (cO b now a n c) (rO 0 ⟨#[]⟩ 0 (.slice none 0 0)) ⟨_, _, rfl⟩
  rw [← hW] at bW x0 x1 sW
  have H1 := hid_of (hc W bW)
  have HH := hid_of h
  have HB := hid_of bW
  have HX1 := hid_of x1
  have HSW := hid_of sW
  have HW := hid_of hW
  clear hW bW x0 x1 sW h hc
  go_enter Tryz.func33, Tryz.ntmps33
  go_wp2_with fail
  rw [← HW.out]
  refine H1.out.mono ?_
  rintro e w5 ⟨rfl, d5⟩
  have t1 : LCmd.Tmp w W (w.heap.size + 1) := ⟨by omega, by rw [HSW.out]; omega⟩
  have z5 := (dn_block HH.out HB.out d5 t1).trans HX1.out
  have D5 := hid_of d5
  obtain ⟨⟨v0, v1, v2, v3⟩, fv⟩ := box4 z5
  have fv0 := fv 0; have fv1 := fv 1; have fv2 := fv 2; have fv3 := fv 3
  have hz := fin4_at z5 (.int .i64 rk) (.string rT) (.int .i64 rn) (.slice la ln lc)
  have hdn := dn_tmp HH.out HB.out D5.out (ev_fin4 t1 (.int .i64 rk) (.string rT) (.int .i64 rn) (.slice la ln lc))
  unfold fin4 at hz hdn
  clear fv z5 d5 H1
  go_wp2_with fail
  obtain ⟨⟨g0, g1, g2, g3⟩, -⟩ := box4 hz
  exact bodyPost_ret (v := .agg #[.int .i64 rk, .string rT, .int .i64 rn, .slice la ln lc]) (by simp [results, Tryz.results33, go_sem, g0, g1, g2, g3]) rfl ⟨rfl, hdn⟩
set_option maxHeartbeats 2000000 in
set_option maxRecDepth 100000 in
theorem popLast_call (h : SP F X b w S) (now : Int) (a : Option Addr) (n c : Nat) (rk : Int) (rT : ByteArray) (rn : Int) (la : Option Addr) (ln lc : Nat)
    (hc : ∀ V, Below w.heap.size w V → Calls Tryz.prog 77 #[cV b now a n c, .int .i64 1] V fun e w' => e = .returned (.agg #[.int .i64 rk, .string rT, .int .i64 rn, .slice la ln lc]) ∧ Dn F (fun k => X k ∨ LCmd.Tmp w V k) b V w' S') :
    Calls Tryz.prog 41 #[cV b now a n c] w fun e w' => e = .returned (.agg #[.int .i64 rk, .string rT, .int .i64 rn, .slice la ln lc]) ∧ Dn F X b w w' S' := by
  obtain ⟨W, hW⟩ : ∃ W, W = (w.alloc (cO b now a n c)).alloc (rO 0 ⟨#[]⟩ 0 (.slice none 0 0)) := ⟨_, rfl⟩
  obtain ⟨bW, x0, x1, sW⟩ := two_boxes w (cO b now a n c) (rO 0 ⟨#[]⟩ 0 (.slice none 0 0)) ⟨_, _, rfl⟩
  rw [← hW] at bW x0 x1 sW
  have H1 := hid_of (hc W bW)
  have HH := hid_of h
  have HB := hid_of bW
  have HX1 := hid_of x1
  have HSW := hid_of sW
  have HW := hid_of hW
  clear hW bW x0 x1 sW h hc
  go_enter Tryz.func41, Tryz.ntmps41
  go_wp2_with fail
  rw [← HW.out]
  refine H1.out.mono ?_
  rintro e w5 ⟨rfl, d5⟩
  have t1 : LCmd.Tmp w W (w.heap.size + 1) := ⟨by omega, by rw [HSW.out]; omega⟩
  have z5 := (dn_block HH.out HB.out d5 t1).trans HX1.out
  have D5 := hid_of d5
  obtain ⟨⟨v0, v1, v2, v3⟩, fv⟩ := box4 z5
  have fv0 := fv 0; have fv1 := fv 1; have fv2 := fv 2; have fv3 := fv 3
  have hz := fin4_at z5 (.int .i64 rk) (.string rT) (.int .i64 rn) (.slice la ln lc)
  have hdn := dn_tmp HH.out HB.out D5.out (ev_fin4 t1 (.int .i64 rk) (.string rT) (.int .i64 rn) (.slice la ln lc))
  unfold fin4 at hz hdn
  clear fv z5 d5 H1
  go_wp2_with fail
  obtain ⟨⟨g0, g1, g2, g3⟩, -⟩ := box4 hz
  exact bodyPost_ret (v := .agg #[.int .i64 rk, .string rT, .int .i64 rn, .slice la ln lc]) (by simp [results, Tryz.results41, go_sem, g0, g1, g2, g3]) rfl ⟨rfl, hdn⟩
end
end Go.Proofs.YtpibeabokedpdaaGreatDoor.LEnds
end
section
namespace Go.Proofs.YtpibeabokedpdaaGreatDoor.LDo
open Go.RowKit Go.Maps
open Go.Proofs.YtpibeabokedpdaaGreatDoor.SpaceMath (wout withL lkp keys Ris toD)
open Go.Proofs.YtpibeabokedpdaaGreatDoor.ValueMath (Vl chk small)
open Go.Proofs.YtpibeabokedpdaaGreatDoor.Base (mk mk_list mk_size Gr hid_of SL)
open Go.Proofs.YtpibeabokedpdaaGreatDoor.Turn
open Go.Proofs.YtpibeabokedpdaaGreatDoor.Vals
open Go.Proofs.YtpibeabokedpdaaGreatDoor.SBase
open Go.Proofs.YtpibeabokedpdaaGreatDoor.SFind
open Go.Proofs.YtpibeabokedpdaaGreatDoor.QBase
open Go.Proofs.YtpibeabokedpdaaGreatDoor.LCmd
open Go.Proofs.YtpibeabokedpdaaGreatDoor.LPut (pL lV)
open Go.Proofs.YtpibeabokedpdaaGreatDoor.LRow (RR rep)
open Go.Proofs.YtpibeabokedpdaaGreatDoor.LBulks (rpL)
open Go.Proofs.YtpibeabokedpdaaGreatDoor.LMap (fnV cmdL)
open Go.Proofs.YtpibeabokedpdaaGreatDoor.Low (low)
open Go.Proofs.YtpibeabokedpdaaGreatDoor.RowOf (checkS)
open Go.Proofs.YtpibeabokedpdaaGreatDoor.DqSBase (DQ)
open Go.Proofs.YtpibeabokedpdaaGreatDoor.Parse (Has)
set_option linter.unusedVariables false
set_option linter.unusedSimpArgs false
/-- what a request wants -/
structure Rq (l : List Base.El) (f : FuncId) : Prop where
  ch : checkS l = []
  lo : 0 < l.length
  hi : l.length < 9223372036854775808
  bl : ∀ x ∈ l, x.length ≤ 1048576
  fn : lkp cmdL ((l.headD []).map low) = some (fnV f)
theorem Rq.fn0 {l : List Base.El} {f : FuncId} (h : Rq l f) (h0 : 0 < l.length) : lkp cmdL (l[0].map low) = some (fnV f) := by
  have := h.fn
  cases l with
  | nil => simp at h0
  | cons x r => exact this
theorem Rq.bl2 {l : List Base.El} {f : FuncId} (h : Rq l f) : ∀ x ∈ l, x.length ≤ 281474976710656 := fun x hx => Nat.le_trans (h.bl x hx) (by decide)
/-- the list at a key -/
def lst (S : Sp) (k : Bs) (L : List Bs) : Prop := (gt S 0 k = none ∧ L = []) ∨ ∃ en, gt S 0 k = some en ∧ en.val.kind = 2 ∧ en.val.list = L
section
variable {F X : Nat → Prop} {b : Nat} {w : World} {S : Sp}
theorem at_call (h : SP F X b w S) (k : Bs) (hk : k.length ≤ 281474976710656) {L : List Bs} (hL : lst S k L) (hLn : L.length * 16 ≤ 140737488355328) (a : Option Addr) (n c : Nat) :
    Calls Tryz.prog 66 #[cV b 0 a n c, .string (mk k)] w fun e w' => (∃ d, e = .returned (.tuple #[ptr d, .string ⟨#[]⟩]) ∧ DQ (fun q => w.heap.size ≤ q) d (L.map mk) w') ∧ Below w.heap.size w w' := by
  rcases hL with ⟨h1, rfl⟩ | ⟨en, h1, h2, rfl⟩
  · exact LAt.listAt_none h k hk 0 a n c h1
  · exact LAt.listAt_yes h k hk 0 a n c h1 h2 hLn
theorem tail_at {l : List Base.El} (h : 1 < l.length) : l.tail[0]'(by rw [List.length_tail]; omega) = l[1] := by
  cases l with
  | nil => simp at h
  | cons x r => rfl
theorem run_push (h : SP F X b w S) (hr : Room S) {G : Nat → Prop} {a : Option Addr} {n c : Nat} {l : List Base.El} (hl : SL G w (.slice a n c) l) (rq : Rq l 43) (h3 : 2 < l.length) {L : List Bs} (hL : lst S l[1] L) (hLt : ∀ t ∈ L, t.length ≤ 1048576) (hLn : (L.length + l.length) * 16 ≤ 68719476735) :
    Calls Tryz.prog 17 #[ptr b, .slice a n c] w fun e w' => e = .returned (rp 3 ⟨#[]⟩ ((L ++ l.drop 2).length : Int)) ∧ Dn F X b w w' (pL S l[1] (L ++ l.drop 2) (dueV S 0 l[1])) := by
  refine LLaw.run_do h a n c 3 _ ⟨#[]⟩ fun V X' hS hV => ?_
  refine LRun.run_do hS 0 (by decide) (by decide) (hl.below hV) rq.lo rq.hi rq.bl2 rq.ch _ (rq.fn0 rq.lo) (fun args w => by kernel_rfl) 3 ⟨#[]⟩ _ fun V2 a2 c2 hV2 hl2 => ?_
  refine LEnds.pushLast_call (sp_wide hS hV2) 0 a2 _ c2 3 ⟨#[]⟩ _ none 0 0 fun V3 hV3 => ?_
  have hk : (l[1]'(by omega)).length ≤ 281474976710656 := rq.bl2 _ (List.getElem_mem _)
  have H := LPush.push_last (sp_wide (sp_wide hS hV2) hV3) hr (hl2.below hV3) (by rw [List.length_tail]; omega) (fun x hx => rq.bl x (List.mem_of_mem_tail hx)) 0 hLt (by rw [List.length_tail]; omega) (L := L)
    fun V4 hV4 => at_call ((sp_wide (sp_wide hS hV2) hV3).below hV4) _ (by rw [tail_at (by omega)]; exact hk) (by rw [tail_at (by omega)]; exact hL) (by omega) _ _ _
  rw [tail_at (by omega)] at H
  rw [show l.tail.drop 1 = l.drop 2 by rw [← List.drop_one, List.drop_drop]] at H
  exact H
theorem run_pushFirst (h : SP F X b w S) (hr : Room S) {G : Nat → Prop} {a : Option Addr} {n c : Nat} {l : List Base.El} (hl : SL G w (.slice a n c) l) (rq : Rq l 35) (h3 : 2 < l.length) {L : List Bs} (hL : lst S l[1] L) (hLt : ∀ t ∈ L, t.length ≤ 1048576) (hLn : (L.length + l.length) * 16 ≤ 68719476735) :
    Calls Tryz.prog 17 #[ptr b, .slice a n c] w fun e w' => e = .returned (rp 3 ⟨#[]⟩ (((l.drop 2).reverse ++ L).length : Int)) ∧ Dn F X b w w' (pL S l[1] ((l.drop 2).reverse ++ L) (dueV S 0 l[1])) := by
  refine LLaw.run_do h a n c 3 _ ⟨#[]⟩ fun V X' hS hV => ?_
  refine LRun.run_do hS 0 (by decide) (by decide) (hl.below hV) rq.lo rq.hi rq.bl2 rq.ch _ (rq.fn0 rq.lo) (fun args w => by kernel_rfl) 3 ⟨#[]⟩ _ fun V2 a2 c2 hV2 hl2 => ?_
  refine LEnds.pushFirst_call (sp_wide hS hV2) 0 a2 _ c2 3 ⟨#[]⟩ _ none 0 0 fun V3 hV3 => ?_
  have hk : (l[1]'(by omega)).length ≤ 281474976710656 := rq.bl2 _ (List.getElem_mem _)
  have H := LPush.push_first (sp_wide (sp_wide hS hV2) hV3) hr (hl2.below hV3) (by rw [List.length_tail]; omega) (fun x hx => rq.bl x (List.mem_of_mem_tail hx)) 0 hLt (by rw [List.length_tail]; omega) (L := L)
    fun V4 hV4 => at_call ((sp_wide (sp_wide hS hV2) hV3).below hV4) _ (by rw [tail_at (by omega)]; exact hk) (by rw [tail_at (by omega)]; exact hL) (by omega) _ _ _
  rw [tail_at (by omega)] at H
  rw [show l.tail.drop 1 = l.drop 2 by rw [← List.drop_one, List.drop_drop]] at H
  exact H
theorem run_piece (h : SP F X b w S) (hh : Has w) {G : Nat → Prop} {a : Option Addr} {n c : Nat} {l : List Base.El} (hl : SL G w (.slice a n c) l) (rq : Rq l 37) (h4 : 3 < l.length) {x y : Int} (hp : LCmd.prs l[2] = some x) (hq : LCmd.prs l[3] = some y) (hx : -9223372036854775808 ≤ x ∧ x ≤ 9223372036854775807) (hy : -9223372036854775808 ≤ y ∧ y ≤ 9223372036854775807) {L P : List Bs} (hL : lst S l[1] L) (hLn : L.length * 16 ≤ 68719476735) (hP : DqSPiece.pieceS (L.map mk) x y = P.map mk) (hPl : P.length < 4000000000000) :
    Calls Tryz.prog 17 #[ptr b, .slice a n c] w fun e w' => ∃ v, e = .returned (rpL v) ∧ RR w.heap.size w' v P ∧ Dn F X b w w' S := by
  have t2 : ∀ (i : Nat) (hi : i + 1 < l.length), l.tail[i]'(by rw [List.length_tail]; omega) = l[i + 1] := fun i hi => by simp
  refine (LLaw.run_any h a n c 6 0 ⟨#[]⟩ (fun V la ln lc w1 => RR V.heap.size w1 (.slice la ln lc) P) (fun la ln lc w1 => RR w.heap.size w1 (.slice la ln lc) P) (fun V la ln lc w1 w2 hV hr he => LLaw.rr_ev hr hV.size he) fun V X' hS hV => ?_).mono fun e w' ⟨la, ln, lc, h1, h2, h3⟩ => ⟨_, h1, h2, h3⟩
  refine LRun.run_any hS 0 (by decide) (by decide) (hl.below hV) rq.lo rq.hi rq.bl2 rq.ch _ (rq.fn0 rq.lo) (fun args w => by kernel_rfl) 6 ⟨#[]⟩ 0 (fun V2 la ln lc w1 => RR V2.heap.size w1 (.slice la ln lc) P) (fun la ln lc w1 => RR V.heap.size w1 (.slice la ln lc) P) (fun V2 la ln lc w1 w2 hV hr he => LLaw.rr_ev hr hV.size he) fun V2 a2 c2 hV2 hl2 => ?_
  have hk : (l[1]'(by omega)).length ≤ 281474976710656 := rq.bl2 _ (List.getElem_mem _)
  have H := LPiece.piece_list hl2 (by rw [List.length_tail]; omega) (fun t ht => Nat.le_trans (rq.bl t (List.mem_of_mem_tail ht)) (by decide)) 0 (hh.later (hV.trans (hV2.mono hV.size))) (b := b) (by rw [t2 1 (by omega)]; exact hp) (by rw [t2 2 (by omega)]; exact hq) hx hy hLn hP hPl
    fun V4 hV4 => at_call ((sp_wide hS hV2).below hV4) _ (by rw [tail_at (by omega)]; exact hk) (by rw [tail_at (by omega)]; exact hL) (by omega) _ _ _
  refine H.mono ?_
  rintro e w' ⟨v, rfl, hr, bb⟩
  obtain ⟨la, ln, lc, rfl⟩ := LBulks.rr_form hr
  exact ⟨la, ln, lc, rfl, hr, Dn.of (sp_wide hS hV2) bb⟩
end
end Go.Proofs.YtpibeabokedpdaaGreatDoor.LDo
end
section
namespace Go.Proofs.YtpibeabokedpdaaGreatDoor.LAwake
open Go.RowKit Go.Maps
open Go.Proofs.YtpibeabokedpdaaGreatDoor.SpaceMath (wout withL lkp keys Ris toD)
open Go.Proofs.YtpibeabokedpdaaGreatDoor.ValueMath (Vl chk small)
open Go.Proofs.YtpibeabokedpdaaGreatDoor.Base (mk mk_list mk_size Gr hid_of SL)
open Go.Proofs.YtpibeabokedpdaaGreatDoor.Turn
open Go.Proofs.YtpibeabokedpdaaGreatDoor.Vals
open Go.Proofs.YtpibeabokedpdaaGreatDoor.SBase
open Go.Proofs.YtpibeabokedpdaaGreatDoor.SFind
open Go.Proofs.YtpibeabokedpdaaGreatDoor.QBase
open Go.Proofs.YtpibeabokedpdaaGreatDoor.LCmd
open Go.Proofs.YtpibeabokedpdaaGreatDoor.LPut (pL lV)
open Go.Proofs.YtpibeabokedpdaaGreatDoor.LRow (RR rep)
open Go.Proofs.YtpibeabokedpdaaGreatDoor.LBulks (rpL)
open Go.Proofs.YtpibeabokedpdaaGreatDoor.LDo
open Go.Proofs.YtpibeabokedpdaaGreatDoor.Parse (Has)
set_option linter.unusedVariables false
set_option linter.unusedSimpArgs false
abbrev S0 : Sp := ⟨[], 0, none⟩
abbrev S1 : Sp := ⟨[([108], ⟨lV [[97], [98], [99]], 0, 1⟩)], 1, none⟩
abbrev S2 : Sp := ⟨[([108], ⟨lV [[121], [120], [97], [98], [99]], 0, 2⟩)], 2, none⟩
theorem room0 : Room S0 := ⟨rfl, by decide, by decide⟩
theorem room1 : Room S1 := ⟨rfl, by decide, by decide⟩
theorem sl_row {W : World} {q : Nat} (l : List Base.El) (h : W.heap[q]? = some (.cells (l.map Base.V).toArray 9 (0, 0))) : SL (fun _ => True) W (.slice (some ⟨q, 0, none⟩) l.length l.length) l := by
  refine ⟨_, l.length, rfl, Nat.le_refl _, .inr ⟨q, 0, rfl, trivial, fun j x hj => ?_⟩⟩
  rw [Lib.cell_of_heap h, Nat.zero_add]
  simp [hj]
abbrev l1 : List Base.El := [[82, 80, 85, 83, 72], [108], [97], [98], [99]]
theorem rq1 : Rq l1 43 := ⟨by kernel_rfl, by decide, by decide, by decide, by kernel_rfl⟩
abbrev l2 : List Base.El := [[108, 112, 117, 115, 104], [108], [120], [121]]
theorem rq2 : Rq l2 35 := ⟨by kernel_rfl, by decide, by decide, by decide, by kernel_rfl⟩
abbrev l3 : List Base.El := [[108, 114, 97, 110, 103, 101], [108], [49], [45, 50]]
theorem rq3 : Rq l3 37 := ⟨by kernel_rfl, by decide, by decide, by decide, by kernel_rfl⟩
abbrev l4 : List Base.El := [[120], [97], [98]]
theorem e1 : pL S0 [108] ([] ++ l1.drop 2) (dueV S0 0 [108]) = S1 := by kernel_rfl
theorem e2 : pL S1 [108] ((l2.drop 2).reverse ++ [[97], [98], [99]]) (dueV S1 0 [108]) = S2 := by kernel_rfl
theorem p2 : LCmd.prs [49] = some 1 := by kernel_rfl
theorem p3 : LCmd.prs [45, 50] = some (-2) := by kernel_rfl
theorem ls0 : lst S0 [108] [] := .inl ⟨rfl, rfl⟩
theorem ls1 : lst S1 [108] [[97], [98], [99]] := .inr ⟨_, rfl, rfl, rfl⟩
theorem ls2 : lst S2 [108] [[121], [120], [97], [98], [99]] := .inr ⟨_, rfl, rfl, rfl⟩
theorem pc : DqSPiece.pieceS ([[121], [120], [97], [98], [99]].map mk) 1 (-2) = l4.map mk := by kernel_rfl
section
variable {F X : Nat → Prop} {b : Nat} {w : World}
theorem req1 (h : SP F X b w S0) {q : Nat} (hq : w.heap[q]? = some (.cells #[.string ⟨#[82, 80, 85, 83, 72]⟩, .string ⟨#[108]⟩, .string ⟨#[97]⟩, .string ⟨#[98]⟩, .string ⟨#[99]⟩] 9 (0, 0))) :
    Calls Tryz.prog 17 #[ptr b, .slice (some ⟨q, 0, none⟩) 5 5] w fun e w' => e = .returned (rp 3 ⟨#[]⟩ 3) ∧ Dn F X b w w' S1 := by
  have H := run_push h room0 (sl_row l1 hq) rq1 (by decide) (L := []) ls0 (by decide) (by decide)
  rw [show l1[1] = [108] from rfl, e1] at H
  exact H
theorem req2 (h : SP F X b w S1) {q : Nat} (hq : w.heap[q]? = some (.cells #[.string ⟨#[108, 112, 117, 115, 104]⟩, .string ⟨#[108]⟩, .string ⟨#[120]⟩, .string ⟨#[121]⟩] 9 (0, 0))) :
    Calls Tryz.prog 17 #[ptr b, .slice (some ⟨q, 0, none⟩) 4 4] w fun e w' => e = .returned (rp 3 ⟨#[]⟩ 5) ∧ Dn F X b w w' S2 := by
  have H := run_pushFirst h room1 (sl_row l2 hq) rq2 (by decide) (L := [[97], [98], [99]]) ls1 (by decide) (by decide)
  rw [show l2[1] = [108] from rfl, e2] at H
  exact H
theorem req3 (h : SP F X b w S2) (hh : Has w) {q : Nat} (hq : w.heap[q]? = some (.cells #[.string ⟨#[108, 114, 97, 110, 103, 101]⟩, .string ⟨#[108]⟩, .string ⟨#[49]⟩, .string ⟨#[45, 50]⟩] 9 (0, 0))) :
    Calls Tryz.prog 17 #[ptr b, .slice (some ⟨q, 0, none⟩) 4 4] w fun e w' => ∃ v, e = .returned (rpL v) ∧ RR w.heap.size w' v l4 ∧ Dn F X b w w' S2 :=
  run_piece h hh (sl_row l3 hq) rq3 (by decide) (x := 1) (y := -2) p2 p3 (by decide) (by decide) (L := [[121], [120], [97], [98], [99]]) (P := l4) ls2 (by decide) pc (by decide)
end
theorem row_below {w w' : World} {base e sz n : Nat} {v : Value} {xs : List Value} (h : w.ownsRow base e sz v n xs) (hb : Below w.heap.size w w') : w'.ownsRow base e sz v n xs := by
  refine ⟨h.1, h.2.imp id ?_⟩
  rintro ⟨g, cap, cur, rfl, hB, hg, r⟩
  exact ⟨g, cap, cur, rfl, hB, (hb.block g (lt_of hg)).trans hg, r⟩
/-- a request that is done beside a space of the law's own: the space behind it -/
theorem aft0 {F X : Nat → Prop} {b : Nat} {w0 W V w3 : World} {S S' : Sp} (h0 : SP F X b W S) (lo : Below w0.heap.size w0 W) (hi : ∀ k, F k → w0.heap.size ≤ k) (hb : Below W.heap.size W V)
    (h : Dn F (fun k => X k ∨ LCmd.Tmp W V k) b V w3 S') : ∃ F' X', SP F' X' b w3 S' ∧ Below w0.heap.size w0 w3 ∧ ∀ k, F' k → w0.heap.size ≤ k := by
  obtain ⟨F', s, ev, n⟩ := dn_tmp h0 hb h (Ev.refl _ _)
  exact ⟨F', _, s, lo.trans (ev.below lo.size hi), fun k q => (n k q).elim (hi k) (Nat.le_trans lo.size)⟩
set_option maxRecDepth 100000 in
set_option maxHeartbeats 8000000 in
theorem awake_call (w : World) (hh : Has w) : Calls Tryz.prog 7 #[] w fun e w' => e = .returned (.bool true) ∧ Below w.heap.size w w' := by
  have HHas := hid_of hh
  have HN := hid_of (STouch.new_call w)
  have HN1 := hid_of fun (V : World) => LLaw.number_yes 3 V
  have HN2 := hid_of fun (V : World) => LLaw.number_yes 5 V
  have HBu := hid_of fun (V : World) (B : Nat) (v : Value) (q : Nat) (hv : RR B V v l4) (hq : V.heap[q]? = some (.cells #[.string ⟨#[120]⟩, .string ⟨#[97]⟩, .string ⟨#[98]⟩] 9 (0, 0))) => LLaw.bulks_yes hv (sl_row l4 hq) (by decide)
  have HR1 := hid_of fun (F X : Nat → Prop) (b : Nat) (V : World) (q : Nat) (h : SP F X b V S0) (hq : V.heap[q]? = some (.cells #[.string ⟨#[82, 80, 85, 83, 72]⟩, .string ⟨#[108]⟩, .string ⟨#[97]⟩, .string ⟨#[98]⟩, .string ⟨#[99]⟩] 9 (0, 0))) => req1 h hq
  have HR2 := hid_of fun (F X : Nat → Prop) (b : Nat) (V : World) (q : Nat) (h : SP F X b V S1) (hq : V.heap[q]? = some (.cells #[.string ⟨#[108, 112, 117, 115, 104]⟩, .string ⟨#[108]⟩, .string ⟨#[120]⟩, .string ⟨#[121]⟩] 9 (0, 0))) => req2 h hq
  have HR3 := hid_of fun (F X : Nat → Prop) (b : Nat) (V : World) (q : Nat) (h : SP F X b V S2) (hh : Has V) (hq : V.heap[q]? = some (.cells #[.string ⟨#[108, 114, 97, 110, 103, 101]⟩, .string ⟨#[108]⟩, .string ⟨#[49]⟩, .string ⟨#[45, 50]⟩] 9 (0, 0))) => req3 h hh hq
  clear hh
  go_enter Tryz.func7, Tryz.ntmps7
  go_wp2_with fail
  refine HN.out.mono ?_
  rintro e w1 ⟨F1, rfl, hsp, hb1, hF⟩
  have HSP1 := hid_of (show ∃ X, SP F1 X w.heap.size w1 S0 from ⟨_, hsp⟩)
  have HB1 := hid_of hb1
  have HF1 := hid_of hF
  clear hsp hb1 hF HN
  obtain ⟨X1, hsp1⟩ := HSP1.out
  obtain ⟨V1, hV1⟩ : ∃ V, V = w1.alloc (.cells #[.string ⟨#[82, 80, 85, 83, 72]⟩, .string ⟨#[108]⟩, .string ⟨#[97]⟩, .string ⟨#[98]⟩, .string ⟨#[99]⟩] 9) := ⟨_, rfl⟩
  have bV1 : Below w1.heap.size w1 V1 := by rw [hV1]; exact alb _ _
  have HQ1 := hid_of (HR1.out _ _ _ V1 w1.heap.size (sp_wide hsp1 bV1) (by rw [hV1]; exact heap_alloc_new w1 _))
  have HW1 := hid_of hV1
  have HbV1 := hid_of bV1
  have HSQ1 := hid_of hsp1
  clear hV1 bV1 hsp1 HR1 HSP1
  go_wp2_with fail
  rw [← HW1.out]
  refine HQ1.out.mono ?_
  rintro e u1 ⟨rfl, d1⟩
  obtain ⟨F2, X2, sp2, B2, f2⟩ := aft0 HSQ1.out HB1.out HF1.out HbV1.out d1
  have HSP2 := hid_of sp2
  have HB2 := hid_of B2
  have HF2 := hid_of f2
  clear d1 sp2 B2 f2 HSQ1 HB1 HF1 HbV1 HQ1 HW1
  go_wp2_with fail
  refine (HN1.out u1).mono ?_
  rintro e w2 ⟨rfl, b2⟩
  have hsp2 := HSP2.out.below b2
  have HB2b := hid_of (HB2.out.trans (b2.mono HB2.out.size))
  clear b2 HN1 HSP2 HB2
  obtain ⟨V2, hV2⟩ : ∃ V, V = w2.alloc (.cells #[.string ⟨#[108, 112, 117, 115, 104]⟩, .string ⟨#[108]⟩, .string ⟨#[120]⟩, .string ⟨#[121]⟩] 9) := ⟨_, rfl⟩
  have bV2 : Below w2.heap.size w2 V2 := by rw [hV2]; exact alb _ _
  have HQ2 := hid_of (HR2.out _ _ _ V2 w2.heap.size (sp_wide hsp2 bV2) (by rw [hV2]; exact heap_alloc_new w2 _))
  have HW2 := hid_of hV2
  have HbV2 := hid_of bV2
  have HSQ2 := hid_of hsp2
  clear hV2 bV2 hsp2 HR2
  go_wp2_with fail
  rw [← HW2.out]
  refine HQ2.out.mono ?_
  rintro e u2 ⟨rfl, d2⟩
  obtain ⟨F3, X3, sp3, B3, f3⟩ := aft0 HSQ2.out HB2b.out HF2.out HbV2.out d2
  have HSP3 := hid_of sp3
  have HB3 := hid_of B3
  have HF3 := hid_of f3
  clear d2 sp3 B3 f3 HSQ2 HB2b HF2 HbV2 HQ2 HW2
  go_wp2_with fail
  refine (HN2.out u2).mono ?_
  rintro e w3 ⟨rfl, b3⟩
  have hsp3 := HSP3.out.below b3
  have HB3b := hid_of (HB3.out.trans (b3.mono HB3.out.size))
  clear b3 HN2 HSP3 HB3
  obtain ⟨V3, hV3⟩ : ∃ V, V = w3.alloc (.cells #[.string ⟨#[108, 114, 97, 110, 103, 101]⟩, .string ⟨#[108]⟩, .string ⟨#[49]⟩, .string ⟨#[45, 50]⟩] 9) := ⟨_, rfl⟩
  have bV3 : Below w3.heap.size w3 V3 := by rw [hV3]; exact alb _ _
  have HQ3 := hid_of (HR3.out _ _ _ V3 w3.heap.size (sp_wide hsp3 bV3) (HHas.out.later (HB3b.out.trans (bV3.mono HB3b.out.size))) (by rw [hV3]; exact heap_alloc_new w3 _))
  have HW3 := hid_of hV3
  have HbV3 := hid_of bV3
  have HSQ3 := hid_of hsp3
  clear hV3 bV3 hsp3 HR3
  go_wp2_with fail
  rw [← HW3.out]
  refine HQ3.out.mono ?_
  rintro e u3 ⟨v, rfl, rr, d3⟩
  obtain ⟨F4, X4, -, B4, -⟩ := aft0 HSQ3.out HB3b.out HF3.out HbV3.out d3
  obtain ⟨V4, hV4⟩ : ∃ V, V = u3.alloc (.cells #[.string ⟨#[120]⟩, .string ⟨#[97]⟩, .string ⟨#[98]⟩] 9) := ⟨_, rfl⟩
  have bV4 : Below u3.heap.size u3 V4 := by rw [hV4]; exact alb _ _
  have HQ4 := hid_of (HBu.out V4 V3.heap.size v u3.heap.size (row_below rr bV4) (by rw [hV4]; exact heap_alloc_new u3 _))
  have HB4 := hid_of (B4.trans (bV4.mono B4.size))
  have HW4 := hid_of hV4
  clear d3 hV4 bV4 rr B4 HQ3 HW3 HSQ3 HB3b HF3 HbV3 HBu
  go_wp2_with fail
  rw [← HW4.out]
  refine HQ4.out.mono ?_
  rintro e w5 ⟨rfl, b5⟩
  go_wp2_with fail
  exact bodyPost_ret (v := .bool true) (by simp [results, Tryz.results7, go_sem]) rfl ⟨rfl, HB4.out.trans (b5.mono HB4.out.size)⟩
end Go.Proofs.YtpibeabokedpdaaGreatDoor.LAwake
end
