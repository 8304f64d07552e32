/- HGET, HLEN, HSTRLEN, HEXISTS: what reads only. Names get their values: lay of hashcmd. -/
import Derived.Test.YtcgdnpcegcmboaaGreatDoorHLayM
import Derived.Deep.RegionHeld3
section
namespace Go.Proofs.YtcgdnpcegcmboaaGreatDoor.HGet
open Go.RowKit Go.Maps
open Go.Proofs.YtcgdnpcegcmboaaGreatDoor.SpaceMath (wout withL lkp keys toD)
open Go.Proofs.YtcgdnpcegcmboaaGreatDoor.ValueMath (Vl chk small)
open Go.Proofs.YtcgdnpcegcmboaaGreatDoor.Base (mk mk_list mk_size Gr hid_of SL)
open Go.Proofs.YtcgdnpcegcmboaaGreatDoor.Turn
open Go.Proofs.YtcgdnpcegcmboaaGreatDoor.Vals
open Go.Proofs.YtcgdnpcegcmboaaGreatDoor.Check0 (Wel)
open Go.Proofs.YtcgdnpcegcmboaaGreatDoor.SBase
open Go.Proofs.YtcgdnpcegcmboaaGreatDoor.SFind
open Go.Proofs.YtcgdnpcegcmboaaGreatDoor.SPut (vO)
open Go.Proofs.YtcgdnpcegcmboaaGreatDoor.QBase
open Go.Proofs.YtcgdnpcegcmboaaGreatDoor.HCmd
open Go.Proofs.YtcgdnpcegcmboaaGreatDoor.DiBase (DK)
open Go.Proofs.YtcgdnpcegcmboaaGreatDoor.Parse (Has)
set_option linter.unusedVariables false
set_option linter.unusedSimpArgs false
open Go.Proofs.YtcgdnpcegcmboaaGreatDoor.HFld
open Go.Proofs.YtcgdnpcegcmboaaGreatDoor.HRun (Ent)
/-- the words of a request behind its key -/
theorem word_at {G : Nat → Prop} {w : World} {a : Option Addr} {n c : Nat} {l : List Base.El} (h : SL G w (.slice a n c) l) (i : Nat) (hi : i < l.length) : n = l.length ∧ ∃ g o, a = some ⟨g, o, none⟩ ∧ g < w.heap.size ∧ w.cell? ⟨g, o + i, none⟩ = some (.string (mk l[i])) := by
  obtain ⟨e, hc⟩ := sl_get h
  obtain ⟨g, o, e2, hcc⟩ := hc i hi
  exact ⟨e, g, o, e2, Base.cell_lt hcc, hcc⟩
section
variable {F X : Nat → Prop} {b : Nat} {w : World} {S : Sp}
set_option maxHeartbeats 4000000 in
set_option maxRecDepth 100000 in
theorem get_call (h : SP F X b w S) (k : Bs) (hk : k.length ≤ 281474976710656) (now : Int) (a : Option Addr) (n c : Nat) {L : FL} (hL : flds S now k L) (fit : Fit L) (rk : Int) (rT : ByteArray) (rn : Int) (R' : Option Addr → Nat → Nat → World → Prop)
    (hR : ∀ (V w1 w2 : World) la ln lc, Below w.heap.size w V → R' la ln lc w1 → Ev (HCmd.Tmp w V) w1 w2 → R' la ln lc w2)
    (hask : ∀ (V : World) (d m q : Nat), Below w.heap.size w V → V.heap[q]? = some (cO b now (mk k) a n c) → DK d m L V → Calls Tryz.prog 93 #[ptr d, .pointer (some ⟨q, 0, none⟩)] V fun e w' => ∃ la ln lc, e = .returned (.agg #[.int .i64 rk, .string rT, .int .i64 rn, .slice la ln lc]) ∧ R' la ln lc w' ∧ Below V.heap.size V w') :
    Calls Tryz.prog 57 #[cV b now (mk k) a n c] w fun e w' => ∃ la ln lc, e = .returned (.agg #[.int .i64 rk, .string rT, .int .i64 rn, .slice la ln lc]) ∧ R' la ln lc w' ∧ Below w.heap.size w w' := by
  obtain ⟨W, hW⟩ : ∃ W, W = (w.alloc (cO b now (mk k) a n c)).alloc (rO 0 ⟨#[]⟩ 0 (.slice none 0 0)) := ⟨_, rfl⟩
  obtain ⟨bW, x0, x1, sW⟩ := two_boxes w (cO b now (mk k) a n c) (rO 0 ⟨#[]⟩ 0 (.slice none 0 0)) ⟨_, _, rfl⟩
  rw [← hW] at bW x0 x1 sW
  have HRR := hid_of hR
  have H1 := hid_of (HRead.read_ok (h.below bW) k hk now a n c hL fit 93 (.pointer (some ⟨w.heap.size, 0, none⟩)) (fun args w => by kernel_rfl) rk rT rn (fun la ln lc w1 => R' la ln lc w1)
    (fun V w1 w2 la ln lc hV hr he => hR V w1 w2 la ln lc (bW.trans (hV.mono bW.size)) hr (he.mono fun k _ q => ⟨Nat.le_trans bW.size q.1, q.2⟩))
    (fun V d m hV hd => hask V d m w.heap.size (bW.trans (hV.mono bW.size)) ((hV.block _ (lt_of x0)).trans x0) hd))
  have HB := hid_of bW
  have HX1 := hid_of x1
  have HSW := hid_of sW
  have HW := hid_of hW
  obtain ⟨⟨c0, c1, c2, c3⟩, -⟩ := box4 x0
  have t1 : HCmd.Tmp w W (w.heap.size + 1) := ⟨by omega, by rw [HSW.out]; omega⟩
  clear hW bW x0 x1 sW h hL fit hask hR
  generalize mk k = K at *
  go_enter Tryz.func57, Tryz.ntmps57
  go_wp2_with fail
  rw [← HW.out]
  go_wp2_with fail
  refine H1.out.mono ?_
  rintro e w3 ⟨la, ln, lc, rfl, r3, b3⟩
  have B3 := hid_of (FRow.bel HB.out b3 (Nat.le_refl _))
  have X3 := hid_of ((b3.block _ (lt_of HX1.out)).trans HX1.out)
  have R3 := hid_of r3
  obtain ⟨⟨v0, v1, v2, v3⟩, fv⟩ := box4 X3.out
  have fv0 := fv 0; have fv1 := fv 1; have fv2 := fv 2; have fv3 := fv 3
  clear fv b3 r3 H1
  go_wp2_with fail
  have hz := fin4_at X3.out (.int .i64 rk) (.string rT) (.int .i64 rn) (.slice la ln lc)
  have hbz := fin4_b (y0 := .int .i64 rk) (y1 := .string rT) (y2 := .int .i64 rn) (y3 := .slice la ln lc) B3.out (show w.heap.size ≤ w.heap.size + 1 by omega)
  have hrr := HRR.out W w3 _ la ln lc HB.out R3.out (ev_fin4 (w := w) (W := W) (w1 := w3) t1 (.int .i64 rk) (.string rT) (.int .i64 rn) (.slice la ln lc))
  unfold fin4 at hz hbz hrr
  obtain ⟨⟨g0, g1, g2, g3⟩, -⟩ := box4 hz
  exact bodyPost_ret (v := .agg #[.int .i64 rk, .string rT, .int .i64 rn, .slice la ln lc]) (by simp [results, Tryz.results57, go_sem, g0, g1, g2, g3]) rfl ⟨la, ln, lc, rfl, hrr, hbz⟩
set_option maxHeartbeats 4000000 in
set_option maxRecDepth 100000 in
theorem length_call (h : SP F X b w S) (k : Bs) (hk : k.length ≤ 281474976710656) (now : Int) (a : Option Addr) (n c : Nat) {L : FL} (hL : flds S now k L) (fit : Fit L) (rk : Int) (rT : ByteArray) (rn : Int) (R' : Option Addr → Nat → Nat → World → Prop)
    (hR : ∀ (V w1 w2 : World) la ln lc, Below w.heap.size w V → R' la ln lc w1 → Ev (HCmd.Tmp w V) w1 w2 → R' la ln lc w2)
    (hask : ∀ (V : World) (d m q : Nat), Below w.heap.size w V → V.heap[q]? = some (cO b now (mk k) a n c) → DK d m L V → Calls Tryz.prog 104 #[ptr d] V fun e w' => ∃ la ln lc, e = .returned (.agg #[.int .i64 rk, .string rT, .int .i64 rn, .slice la ln lc]) ∧ R' la ln lc w' ∧ Below V.heap.size V w') :
    Calls Tryz.prog 61 #[cV b now (mk k) a n c] w fun e w' => ∃ la ln lc, e = .returned (.agg #[.int .i64 rk, .string rT, .int .i64 rn, .slice la ln lc]) ∧ R' la ln lc w' ∧ Below w.heap.size w w' := by
  obtain ⟨W, hW⟩ : ∃ W, W = (w.alloc (cO b now (mk k) a n c)).alloc (rO 0 ⟨#[]⟩ 0 (.slice none 0 0)) := ⟨_, rfl⟩
  obtain ⟨bW, x0, x1, sW⟩ := two_boxes w (cO b now (mk k) a n c) (rO 0 ⟨#[]⟩ 0 (.slice none 0 0)) ⟨_, _, rfl⟩
  rw [← hW] at bW x0 x1 sW
  have HRR := hid_of hR
  have H1 := hid_of (HRead.read_ok0 (h.below bW) k hk now a n c hL fit 104 (fun args w => by kernel_rfl) rk rT rn (fun la ln lc w1 => R' la ln lc w1)
    (fun V w1 w2 la ln lc hV hr he => hR V w1 w2 la ln lc (bW.trans (hV.mono bW.size)) hr (he.mono fun k _ q => ⟨Nat.le_trans bW.size q.1, q.2⟩))
    (fun V d m hV hd => hask V d m w.heap.size (bW.trans (hV.mono bW.size)) ((hV.block _ (lt_of x0)).trans x0) hd))
  have HB := hid_of bW
  have HX1 := hid_of x1
  have HSW := hid_of sW
  have HW := hid_of hW
  obtain ⟨⟨c0, c1, c2, c3⟩, -⟩ := box4 x0
  have t1 : HCmd.Tmp w W (w.heap.size + 1) := ⟨by omega, by rw [HSW.out]; omega⟩
  clear hW bW x0 x1 sW h hL fit hask hR
  generalize mk k = K at *
  go_enter Tryz.func61, Tryz.ntmps61
  go_wp2_with fail
  rw [← HW.out]
  go_wp2_with fail
  refine H1.out.mono ?_
  rintro e w3 ⟨la, ln, lc, rfl, r3, b3⟩
  have B3 := hid_of (FRow.bel HB.out b3 (Nat.le_refl _))
  have X3 := hid_of ((b3.block _ (lt_of HX1.out)).trans HX1.out)
  have R3 := hid_of r3
  obtain ⟨⟨v0, v1, v2, v3⟩, fv⟩ := box4 X3.out
  have fv0 := fv 0; have fv1 := fv 1; have fv2 := fv 2; have fv3 := fv 3
  clear fv b3 r3 H1
  go_wp2_with fail
  have hz := fin4_at X3.out (.int .i64 rk) (.string rT) (.int .i64 rn) (.slice la ln lc)
  have hbz := fin4_b (y0 := .int .i64 rk) (y1 := .string rT) (y2 := .int .i64 rn) (y3 := .slice la ln lc) B3.out (show w.heap.size ≤ w.heap.size + 1 by omega)
  have hrr := HRR.out W w3 _ la ln lc HB.out R3.out (ev_fin4 (w := w) (W := W) (w1 := w3) t1 (.int .i64 rk) (.string rT) (.int .i64 rn) (.slice la ln lc))
  unfold fin4 at hz hbz hrr
  obtain ⟨⟨g0, g1, g2, g3⟩, -⟩ := box4 hz
  exact bodyPost_ret (v := .agg #[.int .i64 rk, .string rT, .int .i64 rn, .slice la ln lc]) (by simp [results, Tryz.results61, go_sem, g0, g1, g2, g3]) rfl ⟨la, ln, lc, rfl, hrr, hbz⟩
set_option maxHeartbeats 4000000 in
set_option maxRecDepth 100000 in
theorem all_call (h : SP F X b w S) (k : Bs) (hk : k.length ≤ 281474976710656) (now : Int) (a : Option Addr) (n c : Nat) {L : FL} (hL : flds S now k L) (fit : Fit L) (rk : Int) (rT : ByteArray) (rn : Int) (R' : Option Addr → Nat → Nat → World → Prop)
    (hR : ∀ (V w1 w2 : World) la ln lc, Below w.heap.size w V → R' la ln lc w1 → Ev (HCmd.Tmp w V) w1 w2 → R' la ln lc w2)
    (hask : ∀ (V : World) (d m q : Nat), Below w.heap.size w V → V.heap[q]? = some (cO b now (mk k) a n c) → DK d m L V → Calls Tryz.prog 95 #[ptr d] V fun e w' => ∃ la ln lc, e = .returned (.agg #[.int .i64 rk, .string rT, .int .i64 rn, .slice la ln lc]) ∧ R' la ln lc w' ∧ Below V.heap.size V w') :
    Calls Tryz.prog 58 #[cV b now (mk k) a n c] w fun e w' => ∃ la ln lc, e = .returned (.agg #[.int .i64 rk, .string rT, .int .i64 rn, .slice la ln lc]) ∧ R' la ln lc w' ∧ Below w.heap.size w w' := by
  obtain ⟨W, hW⟩ : ∃ W, W = (w.alloc (cO b now (mk k) a n c)).alloc (rO 0 ⟨#[]⟩ 0 (.slice none 0 0)) := ⟨_, rfl⟩
  obtain ⟨bW, x0, x1, sW⟩ := two_boxes w (cO b now (mk k) a n c) (rO 0 ⟨#[]⟩ 0 (.slice none 0 0)) ⟨_, _, rfl⟩
  rw [← hW] at bW x0 x1 sW
  have HRR := hid_of hR
  have H1 := hid_of (HRead.read_ok0 (h.below bW) k hk now a n c hL fit 95 (fun args w => by kernel_rfl) rk rT rn (fun la ln lc w1 => R' la ln lc w1)
    (fun V w1 w2 la ln lc hV hr he => hR V w1 w2 la ln lc (bW.trans (hV.mono bW.size)) hr (he.mono fun k _ q => ⟨Nat.le_trans bW.size q.1, q.2⟩))
    (fun V d m hV hd => hask V d m w.heap.size (bW.trans (hV.mono bW.size)) ((hV.block _ (lt_of x0)).trans x0) hd))
  have HB := hid_of bW
  have HX1 := hid_of x1
  have HSW := hid_of sW
  have HW := hid_of hW
  obtain ⟨⟨c0, c1, c2, c3⟩, -⟩ := box4 x0
  have t1 : HCmd.Tmp w W (w.heap.size + 1) := ⟨by omega, by rw [HSW.out]; omega⟩
  clear hW bW x0 x1 sW h hL fit hask hR
  generalize mk k = K at *
  go_enter Tryz.func58, Tryz.ntmps58
  go_wp2_with fail
  rw [← HW.out]
  go_wp2_with fail
  refine H1.out.mono ?_
  rintro e w3 ⟨la, ln, lc, rfl, r3, b3⟩
  have B3 := hid_of (FRow.bel HB.out b3 (Nat.le_refl _))
  have X3 := hid_of ((b3.block _ (lt_of HX1.out)).trans HX1.out)
  have R3 := hid_of r3
  obtain ⟨⟨v0, v1, v2, v3⟩, fv⟩ := box4 X3.out
  have fv0 := fv 0; have fv1 := fv 1; have fv2 := fv 2; have fv3 := fv 3
  clear fv b3 r3 H1
  go_wp2_with fail
  have hz := fin4_at X3.out (.int .i64 rk) (.string rT) (.int .i64 rn) (.slice la ln lc)
  have hbz := fin4_b (y0 := .int .i64 rk) (y1 := .string rT) (y2 := .int .i64 rn) (y3 := .slice la ln lc) B3.out (show w.heap.size ≤ w.heap.size + 1 by omega)
  have hrr := HRR.out W w3 _ la ln lc HB.out R3.out (ev_fin4 (w := w) (W := W) (w1 := w3) t1 (.int .i64 rk) (.string rT) (.int .i64 rn) (.slice la ln lc))
  unfold fin4 at hz hbz hrr
  obtain ⟨⟨g0, g1, g2, g3⟩, -⟩ := box4 hz
  exact bodyPost_ret (v := .agg #[.int .i64 rk, .string rT, .int .i64 rn, .slice la ln lc]) (by simp [results, Tryz.results58, go_sem, g0, g1, g2, g3]) rfl ⟨la, ln, lc, rfl, hrr, hbz⟩
set_option maxHeartbeats 4000000 in
set_option maxRecDepth 100000 in
theorem valueLength_call (h : SP F X b w S) (k : Bs) (hk : k.length ≤ 281474976710656) (now : Int) (a : Option Addr) (n c : Nat) {L : FL} (hL : flds S now k L) (fit : Fit L) (rk : Int) (rT : ByteArray) (rn : Int) (R' : Option Addr → Nat → Nat → World → Prop)
    (hR : ∀ (V w1 w2 : World) la ln lc, Below w.heap.size w V → R' la ln lc w1 → Ev (HCmd.Tmp w V) w1 w2 → R' la ln lc w2)
    (hask : ∀ (V : World) (d m q : Nat), Below w.heap.size w V → V.heap[q]? = some (cO b now (mk k) a n c) → DK d m L V → Calls Tryz.prog 117 #[ptr d, .pointer (some ⟨q, 0, none⟩)] V fun e w' => ∃ la ln lc, e = .returned (.agg #[.int .i64 rk, .string rT, .int .i64 rn, .slice la ln lc]) ∧ R' la ln lc w' ∧ Below V.heap.size V w') :
    Calls Tryz.prog 67 #[cV b now (mk k) a n c] w fun e w' => ∃ la ln lc, e = .returned (.agg #[.int .i64 rk, .string rT, .int .i64 rn, .slice la ln lc]) ∧ R' la ln lc w' ∧ Below w.heap.size w w' := by
  obtain ⟨W, hW⟩ : ∃ W, W = (w.alloc (cO b now (mk k) a n c)).alloc (rO 0 ⟨#[]⟩ 0 (.slice none 0 0)) := ⟨_, rfl⟩
  obtain ⟨bW, x0, x1, sW⟩ := two_boxes w (cO b now (mk k) a n c) (rO 0 ⟨#[]⟩ 0 (.slice none 0 0)) ⟨_, _, rfl⟩
  rw [← hW] at bW x0 x1 sW
  have HRR := hid_of hR
  have H1 := hid_of (HRead.read_ok (h.below bW) k hk now a n c hL fit 117 (.pointer (some ⟨w.heap.size, 0, none⟩)) (fun args w => by kernel_rfl) rk rT rn (fun la ln lc w1 => R' la ln lc w1)
    (fun V w1 w2 la ln lc hV hr he => hR V w1 w2 la ln lc (bW.trans (hV.mono bW.size)) hr (he.mono fun k _ q => ⟨Nat.le_trans bW.size q.1, q.2⟩))
    (fun V d m hV hd => hask V d m w.heap.size (bW.trans (hV.mono bW.size)) ((hV.block _ (lt_of x0)).trans x0) hd))
  have HB := hid_of bW
  have HX1 := hid_of x1
  have HSW := hid_of sW
  have HW := hid_of hW
  obtain ⟨⟨c0, c1, c2, c3⟩, -⟩ := box4 x0
  have t1 : HCmd.Tmp w W (w.heap.size + 1) := ⟨by omega, by rw [HSW.out]; omega⟩
  clear hW bW x0 x1 sW h hL fit hask hR
  generalize mk k = K at *
  go_enter Tryz.func67, Tryz.ntmps67
  go_wp2_with fail
  rw [← HW.out]
  go_wp2_with fail
  refine H1.out.mono ?_
  rintro e w3 ⟨la, ln, lc, rfl, r3, b3⟩
  have B3 := hid_of (FRow.bel HB.out b3 (Nat.le_refl _))
  have X3 := hid_of ((b3.block _ (lt_of HX1.out)).trans HX1.out)
  have R3 := hid_of r3
  obtain ⟨⟨v0, v1, v2, v3⟩, fv⟩ := box4 X3.out
  have fv0 := fv 0; have fv1 := fv 1; have fv2 := fv 2; have fv3 := fv 3
  clear fv b3 r3 H1
  go_wp2_with fail
  have hz := fin4_at X3.out (.int .i64 rk) (.string rT) (.int .i64 rn) (.slice la ln lc)
  have hbz := fin4_b (y0 := .int .i64 rk) (y1 := .string rT) (y2 := .int .i64 rn) (y3 := .slice la ln lc) B3.out (show w.heap.size ≤ w.heap.size + 1 by omega)
  have hrr := HRR.out W w3 _ la ln lc HB.out R3.out (ev_fin4 (w := w) (W := W) (w1 := w3) t1 (.int .i64 rk) (.string rT) (.int .i64 rn) (.slice la ln lc))
  unfold fin4 at hz hbz hrr
  obtain ⟨⟨g0, g1, g2, g3⟩, -⟩ := box4 hz
  exact bodyPost_ret (v := .agg #[.int .i64 rk, .string rT, .int .i64 rn, .slice la ln lc]) (by simp [results, Tryz.results67, go_sem, g0, g1, g2, g3]) rfl ⟨la, ln, lc, rfl, hrr, hbz⟩
set_option maxHeartbeats 4000000 in
set_option maxRecDepth 100000 in
theorem exists_call (h : SP F X b w S) (k : Bs) (hk : k.length ≤ 281474976710656) (now : Int) (a : Option Addr) (n c : Nat) {L : FL} (hL : flds S now k L) (fit : Fit L) (rk : Int) (rT : ByteArray) (rn : Int) (R' : Option Addr → Nat → Nat → World → Prop)
    (hR : ∀ (V w1 w2 : World) la ln lc, Below w.heap.size w V → R' la ln lc w1 → Ev (HCmd.Tmp w V) w1 w2 → R' la ln lc w2)
    (hask : ∀ (V : World) (d m q : Nat), Below w.heap.size w V → V.heap[q]? = some (cO b now (mk k) a n c) → DK d m L V → Calls Tryz.prog 91 #[ptr d, .pointer (some ⟨q, 0, none⟩)] V fun e w' => ∃ la ln lc, e = .returned (.agg #[.int .i64 rk, .string rT, .int .i64 rn, .slice la ln lc]) ∧ R' la ln lc w' ∧ Below V.heap.size V w') :
    Calls Tryz.prog 56 #[cV b now (mk k) a n c] w fun e w' => ∃ la ln lc, e = .returned (.agg #[.int .i64 rk, .string rT, .int .i64 rn, .slice la ln lc]) ∧ R' la ln lc w' ∧ Below w.heap.size w w' := by
  obtain ⟨W, hW⟩ : ∃ W, W = (w.alloc (cO b now (mk k) a n c)).alloc (rO 0 ⟨#[]⟩ 0 (.slice none 0 0)) := ⟨_, rfl⟩
  obtain ⟨bW, x0, x1, sW⟩ := two_boxes w (cO b now (mk k) a n c) (rO 0 ⟨#[]⟩ 0 (.slice none 0 0)) ⟨_, _, rfl⟩
  rw [← hW] at bW x0 x1 sW
  have HRR := hid_of hR
  have H1 := hid_of (HRead.read_ok (h.below bW) k hk now a n c hL fit 91 (.pointer (some ⟨w.heap.size, 0, none⟩)) (fun args w => by kernel_rfl) rk rT rn (fun la ln lc w1 => R' la ln lc w1)
    (fun V w1 w2 la ln lc hV hr he => hR V w1 w2 la ln lc (bW.trans (hV.mono bW.size)) hr (he.mono fun k _ q => ⟨Nat.le_trans bW.size q.1, q.2⟩))
    (fun V d m hV hd => hask V d m w.heap.size (bW.trans (hV.mono bW.size)) ((hV.block _ (lt_of x0)).trans x0) hd))
  have HB := hid_of bW
  have HX1 := hid_of x1
  have HSW := hid_of sW
  have HW := hid_of hW
  obtain ⟨⟨c0, c1, c2, c3⟩, -⟩ := box4 x0
  have t1 : HCmd.Tmp w W (w.heap.size + 1) := ⟨by omega, by rw [HSW.out]; omega⟩
  clear hW bW x0 x1 sW h hL fit hask hR
  generalize mk k = K at *
  go_enter Tryz.func56, Tryz.ntmps56
  go_wp2_with fail
  rw [← HW.out]
  go_wp2_with fail
  refine H1.out.mono ?_
  rintro e w3 ⟨la, ln, lc, rfl, r3, b3⟩
  have B3 := hid_of (FRow.bel HB.out b3 (Nat.le_refl _))
  have X3 := hid_of ((b3.block _ (lt_of HX1.out)).trans HX1.out)
  have R3 := hid_of r3
  obtain ⟨⟨v0, v1, v2, v3⟩, fv⟩ := box4 X3.out
  have fv0 := fv 0; have fv1 := fv 1; have fv2 := fv 2; have fv3 := fv 3
  clear fv b3 r3 H1
  go_wp2_with fail
  have hz := fin4_at X3.out (.int .i64 rk) (.string rT) (.int .i64 rn) (.slice la ln lc)
  have hbz := fin4_b (y0 := .int .i64 rk) (y1 := .string rT) (y2 := .int .i64 rn) (y3 := .slice la ln lc) B3.out (show w.heap.size ≤ w.heap.size + 1 by omega)
  have hrr := HRR.out W w3 _ la ln lc HB.out R3.out (ev_fin4 (w := w) (W := W) (w1 := w3) t1 (.int .i64 rk) (.string rT) (.int .i64 rn) (.slice la ln lc))
  unfold fin4 at hz hbz hrr
  obtain ⟨⟨g0, g1, g2, g3⟩, -⟩ := box4 hz
  exact bodyPost_ret (v := .agg #[.int .i64 rk, .string rT, .int .i64 rn, .slice la ln lc]) (by simp [results, Tryz.results56, go_sem, g0, g1, g2, g3]) rfl ⟨la, ln, lc, rfl, hrr, hbz⟩
end
set_option maxHeartbeats 4000000 in
set_option maxRecDepth 100000 in
theorem valueOf_yes (d m : Nat) (L : FL) (k : Bs) (V : World) (hd : DK d m L V) (hk : k.length ≤ 140737488355328) {v : Bs} (hl : DiDictMath.lkp L k = some v) :
    Calls Tryz.prog 94 #[ptr d, .string (mk k)] V fun e w' => e = .returned (rp 4 (mk v) 0) ∧ Below V.heap.size V w' := by
  obtain ⟨W, hW⟩ : ∃ W, W = V.alloc (rO 0 ⟨#[]⟩ 0 (.slice none 0 0)) := ⟨_, rfl⟩
  have bW : Below V.heap.size V W := by rw [hW]; exact alb _ _
  have HX := hid_of (show W.heap[V.heap.size]? = some (rO 0 ⟨#[]⟩ 0 (.slice none 0 0)) by rw [hW]; exact heap_alloc_new V _)
  have hg := DiSmall.get_call d m L (mk k) W (hd.below bW) (by rw [mk_size]; exact hk)
  have e1 : DiBase.bs (mk k) = k := rfl
  rw [e1] at hg
  rw [show DiBase.valS L k = mk v by unfold DiBase.valS; rw [hl]; rfl, show DiDictMath.ok L k = true by unfold DiDictMath.ok; rw [hl]; rfl] at hg
  generalize mk v = T at *
  have H1 := hid_of hg
  have HBk := hid_of (@bulk_call)
  have HNl := hid_of (@null_call)
  have HB := hid_of bW
  have HW := hid_of hW
  clear hW bW hd hk hg hl
  generalize mk k = K at *
  go_enter Tryz.func94, Tryz.ntmps94
  go_wp2_with fail
  rw [← HW.out]
  refine H1.out.mono ?_
  rintro e w1 ⟨rfl, b1⟩
  have B1 := hid_of (FRow.bel HB.out b1 (Nat.le_refl _))
  have X1 := hid_of ((b1.block _ (lt_of HX.out)).trans HX.out)
  clear b1 H1
  go_wp2_with fail
  refine (HBk.out T _).mono ?_
  rintro e w2 ⟨rfl, b2⟩
  have B2 := hid_of (B1.out.trans (b2.mono B1.out.size))
  have X2 := hid_of ((b2.block _ (lt_of X1.out)).trans X1.out)
  obtain ⟨⟨v0, v1, v2, v3⟩, fv⟩ := box4 X2.out
  have fv0 := fv 0; have fv1 := fv 1; have fv2 := fv 2; have fv3 := fv 3
  clear fv b2
  go_wp2_with fail
  have hz := fin4_at X2.out (.int .i64 4) (.string T) (.int .i64 0) (.slice none 0 0)
  have hbz := fin4_b (y0 := .int .i64 4) (y1 := .string T) (y2 := .int .i64 0) (y3 := .slice none 0 0) B2.out (Nat.le_refl _)
  unfold fin4 at hz hbz
  obtain ⟨⟨g0, g1, g2, g3⟩, -⟩ := box4 hz
  exact bodyPost_ret (v := rp 4 T 0) (by simp [results, Tryz.results94, go_sem, g0, g1, g2, g3]) rfl ⟨rfl, hbz⟩
set_option maxHeartbeats 4000000 in
set_option maxRecDepth 100000 in
theorem valueOf_no (d m : Nat) (L : FL) (k : Bs) (V : World) (hd : DK d m L V) (hk : k.length ≤ 140737488355328) (hl : DiDictMath.lkp L k = none) :
    Calls Tryz.prog 94 #[ptr d, .string (mk k)] V fun e w' => e = .returned (rp 5 ⟨#[]⟩ 0) ∧ Below V.heap.size V w' := by
  obtain ⟨W, hW⟩ : ∃ W, W = V.alloc (rO 0 ⟨#[]⟩ 0 (.slice none 0 0)) := ⟨_, rfl⟩
  have bW : Below V.heap.size V W := by rw [hW]; exact alb _ _
  have HX := hid_of (show W.heap[V.heap.size]? = some (rO 0 ⟨#[]⟩ 0 (.slice none 0 0)) by rw [hW]; exact heap_alloc_new V _)
  have hg := DiSmall.get_call d m L (mk k) W (hd.below bW) (by rw [mk_size]; exact hk)
  have e1 : DiBase.bs (mk k) = k := rfl
  rw [e1] at hg
  rw [show DiDictMath.ok L k = false by unfold DiDictMath.ok; rw [hl]; rfl] at hg
  generalize DiBase.valS L k = T at *
  have H1 := hid_of hg
  have HBk := hid_of (@bulk_call)
  have HNl := hid_of (@null_call)
  have HB := hid_of bW
  have HW := hid_of hW
  clear hW bW hd hk hg hl
  generalize mk k = K at *
  go_enter Tryz.func94, Tryz.ntmps94
  go_wp2_with fail
  rw [← HW.out]
  refine H1.out.mono ?_
  rintro e w1 ⟨rfl, b1⟩
  have B1 := hid_of (FRow.bel HB.out b1 (Nat.le_refl _))
  have X1 := hid_of ((b1.block _ (lt_of HX.out)).trans HX.out)
  clear b1 H1
  go_wp2_with fail
  refine (HNl.out _).mono ?_
  rintro e w2 ⟨rfl, b2⟩
  have B2 := hid_of (B1.out.trans (b2.mono B1.out.size))
  have X2 := hid_of ((b2.block _ (lt_of X1.out)).trans X1.out)
  obtain ⟨⟨v0, v1, v2, v3⟩, fv⟩ := box4 X2.out
  have fv0 := fv 0; have fv1 := fv 1; have fv2 := fv 2; have fv3 := fv 3
  clear fv b2
  go_wp2_with fail
  have hz := fin4_at X2.out (.int .i64 5) (.string ⟨#[]⟩) (.int .i64 0) (.slice none 0 0)
  have hbz := fin4_b (y0 := .int .i64 5) (y1 := .string ⟨#[]⟩) (y2 := .int .i64 0) (y3 := .slice none 0 0) B2.out (Nat.le_refl _)
  unfold fin4 at hz hbz
  obtain ⟨⟨g0, g1, g2, g3⟩, -⟩ := box4 hz
  exact bodyPost_ret (v := rp 5 ⟨#[]⟩ 0) (by simp [results, Tryz.results94, go_sem, g0, g1, g2, g3]) rfl ⟨rfl, hbz⟩
set_option maxHeartbeats 4000000 in
set_option maxRecDepth 100000 in
theorem get1_call (b : Nat) (now : Int) (K : ByteArray) {G : Nat → Prop} {a : Option Addr} {n c : Nat} {ws : List Base.El} (V : World) (q d : Nat) (hq : V.heap[q]? = some (cO b now K a n c)) (hw : SL G V (.slice a n c) ws) (h0 : 0 < ws.length) (rk : Int) (T : ByteArray)
    (hv : ∀ V2, Below V.heap.size V V2 → Calls Tryz.prog 94 #[ptr d, .string (mk ws[0])] V2 fun e w' => e = .returned (rp rk T 0) ∧ Below V2.heap.size V2 w') :
    Calls Tryz.prog 93 #[ptr d, .pointer (some ⟨q, 0, none⟩)] V fun e w' => e = .returned (rp rk T 0) ∧ Below V.heap.size V w' := by
  obtain ⟨rfl, ga, oa, rfl, hga, hc0⟩ := word_at hw 0 h0
  rw [Nat.add_zero] at hc0
  obtain ⟨W, hW⟩ : ∃ W, W = V.alloc (rO 0 ⟨#[]⟩ 0 (.slice none 0 0)) := ⟨_, rfl⟩
  have bW : Below V.heap.size V W := by rw [hW]; exact alb _ _
  have HX := hid_of (show W.heap[V.heap.size]? = some (rO 0 ⟨#[]⟩ 0 (.slice none 0 0)) by rw [hW]; exact heap_alloc_new V _)
  have xq := (bW.block _ (lt_of hq)).trans hq
  obtain ⟨⟨q0, q1, q2, q3⟩, -⟩ := box4 xq
  have hcw := (bW.cell (p := ⟨ga, oa, none⟩) hga).trans hc0
  have hgw : ga < W.heap.size := Base.cell_lt hcw
  have i0 : (0 : Int) < (ws.length : Int) := by omega
  have q3a := q3
  have hca := hcw
  have hga2 := hgw
  rw [hW] at q3a hca hga2
  have H1 := hid_of (hv W bW)
  have HB := hid_of bW
  have HW := hid_of hW
  clear hW bW hv hq hw hc0 xq
  generalize mk ws[0] = N0 at *
  go_enter Tryz.func93, Tryz.ntmps93
  go_wp2_with fail
  rw [← HW.out]
  go_wp2_with fail
  refine H1.out.mono ?_
  rintro e w1 ⟨rfl, b1⟩
  have B1 := hid_of (FRow.bel HB.out b1 (Nat.le_refl _))
  have X1 := hid_of ((b1.block _ (lt_of HX.out)).trans HX.out)
  obtain ⟨⟨v0, v1, v2, v3⟩, fv⟩ := box4 X1.out
  have fv0 := fv 0; have fv1 := fv 1; have fv2 := fv 2; have fv3 := fv 3
  clear fv b1 H1 q0 q1 q2 q3
  go_wp2_with fail
  have hz := fin4_at X1.out (.int .i64 rk) (.string T) (.int .i64 0) (.slice none 0 0)
  have hbz := fin4_b (y0 := .int .i64 rk) (y1 := .string T) (y2 := .int .i64 0) (y3 := .slice none 0 0) B1.out (Nat.le_refl _)
  unfold fin4 at hz hbz
  obtain ⟨⟨g0, g1, g2, g3⟩, -⟩ := box4 hz
  exact bodyPost_ret (v := rp rk T 0) (by simp [results, Tryz.results93, go_sem, g0, g1, g2, g3]) rfl ⟨rfl, hbz⟩
set_option maxHeartbeats 4000000 in
set_option maxRecDepth 100000 in
theorem length1_call (V : World) (d m : Nat) {L : FL} (x : Value) (hd : DK d m L V) :
    Calls Tryz.prog 104 #[ptr d] V fun e w' => e = .returned (rp 3 ⟨#[]⟩ (L.length : Int)) ∧ Below V.heap.size V w' := by
  obtain ⟨W, hW⟩ : ∃ W, W = V.alloc (rO 0 ⟨#[]⟩ 0 (.slice none 0 0)) := ⟨_, rfl⟩
  have bW : Below V.heap.size V W := by rw [hW]; exact alb _ _
  have HX := hid_of (show W.heap[V.heap.size]? = some (rO 0 ⟨#[]⟩ 0 (.slice none 0 0)) by rw [hW]; exact heap_alloc_new V _)
  have H1 := hid_of (DiSmall.len_call d m L W (hd.below bW))
  have H2 := hid_of (@count_call)
  have HB := hid_of bW
  have HW := hid_of hW
  clear hW bW hd
  go_enter Tryz.func104, Tryz.ntmps104
  go_wp2_with fail
  rw [← HW.out]
  refine H1.out.mono ?_
  rintro e w1 ⟨rfl, hw1⟩
  have hw1 := hw1.symm
  subst hw1
  go_wp2_with fail
  refine (H2.out _ W).mono ?_
  rintro e w2 ⟨rfl, b2⟩
  have B1 := hid_of (FRow.bel HB.out b2 (Nat.le_refl _))
  have X1 := hid_of ((b2.block _ (lt_of HX.out)).trans HX.out)
  obtain ⟨⟨v0, v1, v2, v3⟩, fv⟩ := box4 X1.out
  have fv0 := fv 0; have fv1 := fv 1; have fv2 := fv 2; have fv3 := fv 3
  clear fv b2 H1
  go_wp2_with fail
  have hz := fin4_at X1.out (.int .i64 3) (.string ⟨#[]⟩) (.int .i64 (L.length : Int)) (.slice none 0 0)
  have hbz := fin4_b (y0 := .int .i64 3) (y1 := .string ⟨#[]⟩) (y2 := .int .i64 (L.length : Int)) (y3 := .slice none 0 0) B1.out (Nat.le_refl _)
  unfold fin4 at hz hbz
  obtain ⟨⟨g0, g1, g2, g3⟩, -⟩ := box4 hz
  exact bodyPost_ret (v := rp 3 ⟨#[]⟩ (L.length : Int)) (by simp [results, Tryz.results104, go_sem, g0, g1, g2, g3]) rfl ⟨rfl, hbz⟩
end Go.Proofs.YtcgdnpcegcmboaaGreatDoor.HGet
end
section
namespace Go.Proofs.YtcgdnpcegcmboaaGreatDoor.HSet
open Go.RowKit Go.Maps
open Go.Proofs.YtcgdnpcegcmboaaGreatDoor.SpaceMath (wout withL lkp keys toD)
open Go.Proofs.YtcgdnpcegcmboaaGreatDoor.ValueMath (Vl chk small)
open Go.Proofs.YtcgdnpcegcmboaaGreatDoor.Base (mk mk_list mk_size Gr hid_of SL)
open Go.Proofs.YtcgdnpcegcmboaaGreatDoor.Turn
open Go.Proofs.YtcgdnpcegcmboaaGreatDoor.Vals
open Go.Proofs.YtcgdnpcegcmboaaGreatDoor.Check0 (Wel)
open Go.Proofs.YtcgdnpcegcmboaaGreatDoor.SBase
open Go.Proofs.YtcgdnpcegcmboaaGreatDoor.SFind
open Go.Proofs.YtcgdnpcegcmboaaGreatDoor.SPut (vO)
open Go.Proofs.YtcgdnpcegcmboaaGreatDoor.QBase
open Go.Proofs.YtcgdnpcegcmboaaGreatDoor.HCmd
open Go.Proofs.YtcgdnpcegcmboaaGreatDoor.DiBase (DK)
open Go.Proofs.YtcgdnpcegcmboaaGreatDoor.Parse (Has)
set_option linter.unusedVariables false
set_option linter.unusedSimpArgs false
open Go.Proofs.YtcgdnpcegcmboaaGreatDoor.HFld
open Go.Proofs.YtcgdnpcegcmboaaGreatDoor.HGet (word_at)
def layF (L : FL) : List Bs → FL × Nat
  | f :: v :: r => ((layF (DiDictMath.withL L f v) r).1, (layF (DiDictMath.withL L f v) r).2 + (if DiDictMath.ok L f then 0 else 1))
  | _ => (L, 0)
theorem layF_drop {ps : List Bs} {i : Nat} (hi : i + 1 < ps.length) (L : FL) : layF L (ps.drop i) = ((layF (DiDictMath.withL L ps[i] ps[i + 1]) (ps.drop (i + 2))).1, (layF (DiDictMath.withL L ps[i] ps[i + 1]) (ps.drop (i + 2))).2 + (if DiDictMath.ok L ps[i] then 0 else 1)) := by
  rw [List.drop_eq_getElem_cons (by omega : i < ps.length), List.drop_eq_getElem_cons (by omega : i + 1 < ps.length)]
  rfl
theorem layF_le : ∀ (ps : List Bs) (L : FL), (layF L ps).2 ≤ ps.length
  | [], _ => Nat.le_refl _
  | [_], _ => Nat.zero_le _
  | f :: v :: r, L => by
    have := layF_le r (DiDictMath.withL L f v)
    show (layF (DiDictMath.withL L f v) r).2 + _ ≤ r.length + 1 + 1
    split <;> omega
theorem bsmk (k : Bs) : DiBase.bs (mk k) = k := rfl
set_option maxHeartbeats 8000000 in
set_option maxRecDepth 100000 in
theorem lay_call (w : World) (d m : Nat) (L : FL) {G : Nat → Prop} {a : Option Addr} {n c : Nat} {ps : List Base.El} (hd : DK d m L w) (hw : SL G w (.slice a n c) ps) (hev : ps.length % 2 = 0) (hb : ∀ t ∈ ps, t.length ≤ 140737488355328) (hn : L.length + ps.length < 8796093022208) :
    Calls Tryz.prog 109 #[ptr d, .slice a n c] w fun e w' => e = .returned (.int .i64 ((layF L ps).2 : Int)) ∧ DK d m (layF L ps).1 w' ∧ DiBase.Mv m w w' := by
  obtain ⟨rfl, hcs⟩ := sl_get hw
  have HC := hid_of hcs
  have HBb := hid_of hb
  have HD := hid_of hd
  have HLE := hid_of (layF_le ps L)
  clear hw hb hcs hd
  go_enter Tryz.func109, Tryz.ntmps109
  go_wp2_with fail
  go_loopg [5, 6] ps.length (fun g s5 s6 wx => ∃ (i fr : Nat) (Lc : FL), i ≤ ps.length ∧ ps.length ≤ i + g ∧ i % 2 = 0 ∧ s5 = .int .i64 (fr : Int) ∧ s6 = .int .i64 (i : Int) ∧ Hid (DK d m Lc wx) ∧ Hid (DiBase.Mv m w wx) ∧ Hid ((layF Lc (ps.drop i)).1 = (layF L ps).1 ∧ (layF Lc (ps.drop i)).2 + fr = (layF L ps).2) ∧ Lc.length ≤ L.length + i)
  case atStart => exact ⟨0, 0, L, by omega, by omega, rfl, rfl, rfl, HD, hid_of (DiBase.Mv.of_below (Below.refl _ _) (DiBase.owns_map HD.out.map)), hid_of ⟨rfl, rfl⟩, by omega⟩
  case round =>
    obtain ⟨i, fr, Lc, hi, hg, hpar, rfl, rfl, HDx, HBx, HLx, hlen⟩ := hrel
    by_cases hlt : i < ps.length
    · obtain ⟨g', rfl⟩ : ∃ g', gk = g' + 1 := ⟨gk - 1, by omega⟩
      have hlt2 : i + 1 < ps.length := by omega
      obtain ⟨ga, oa, rfl, hc0⟩ := HC.out i hlt
      obtain ⟨ga', oa', e2, hc1⟩ := HC.out (i + 1) hlt2
      obtain ⟨rfl, rfl⟩ : ga = ga' ∧ oa = oa' := by injection e2 with e2; injection e2 with e3 e4; exact ⟨e3, e4⟩
      have q0 : wr.drew.cell? ⟨ga, oa + i, none⟩ = some (.string (mk ps[i])) := HBx.out.cell hc0
      have q1 : wr.drew.cell? ⟨ga, oa + (i + 1), none⟩ = some (.string (mk ps[i + 1])) := HBx.out.cell hc1
      have g1 : (i : Int) < (ps.length : Int) := by omega
      have g2 : (i : Int) + 1 < (ps.length : Int) := by omega
      have g3 : (0 : Int) ≤ (i : Int) + 1 := by omega
      have w1 : IntKind.i64.wrap ((i : Int) + 1) = (i : Int) + 1 := IntWalk.i64_in _ (by omega)
      have w2 : IntKind.i64.wrap ((i : Int) + 2) = (i : Int) + 2 := IntWalk.i64_in _ (by omega)
      have hfr : fr ≤ ps.length := by have := HLx.out.2; have := HLE.out; omega
      have w3 : IntKind.i64.wrap ((fr : Int) + 1) = (fr : Int) + 1 := IntWalk.i64_in _ (by omega)
      have tn : ((i : Int) + 1).toNat = i + 1 := by omega
      have HS := hid_of fun (V : World) (hV : DK d m Lc V) => DiSmall.set_call d m Lc (mk ps[i]) (mk ps[i + 1]) V hV (by rw [mk_size]; exact HBb.out _ (List.getElem_mem hlt)) (by rw [mk_size]; exact HBb.out _ (List.getElem_mem hlt2)) (by omega)
      rw [bsmk, bsmk] at HS
      have HL := hid_of (layF_drop hlt2 Lc)
      have hl2 := DiDictMath.with_len Lc ps[i] ps[i + 1]
      have HDd := hid_of (HDx.out.below (Below.refl _ wr).drew)
      clear hc0 hc1
      generalize ps[i] = f at *
      generalize ps[i + 1] = v at *
      generalize mk f = FF at *
      generalize mk v = VV at *
      cases hok : DiDictMath.ok Lc f with
      | true =>
        rw [hok] at HS HL
        go_wp2_with fail
        go_region_with (first | (go_at_call 139; refine (HS.out _ HDd.out).mono ?_; rintro e u ⟨rfl, hd2, mv⟩; have HD2 := hid_of hd2; have HM := hid_of mv; clear hd2 mv))
        all_goals
          go_wp2_with fail
          go_roundg g'
          case measure => omega
          case rel => exact ⟨i + 2, fr, _, by omega, by omega, by omega, rfl, by rw [show ((i + 2 : Nat) : Int) = (i : Int) + 2 by omega], HD2, hid_of (HBx.out.trans ((DiBase.Mv.of_below (Below.refl _ wr).drew (DiBase.owns_map HDx.out.map)).trans HM.out)), hid_of (by have h := HLx.out; rw [HL.out] at h; simpa using h), by omega⟩
      | false =>
        rw [hok] at HS HL
        go_wp2_with fail
        go_region_with (first | (go_at_call 139; refine (HS.out _ HDd.out).mono ?_; rintro e u ⟨rfl, hd2, mv⟩; have HD2 := hid_of hd2; have HM := hid_of mv; clear hd2 mv))
        all_goals
          go_wp2_with fail
          go_roundg g'
          case measure => omega
          case rel => exact ⟨i + 2, fr + 1, _, by omega, by omega, by omega, by rw [show ((fr + 1 : Nat) : Int) = (fr : Int) + 1 by omega], by rw [show ((i + 2 : Nat) : Int) = (i : Int) + 2 by omega], HD2, hid_of (HBx.out.trans ((DiBase.Mv.of_below (Below.refl _ wr).drew (DiBase.owns_map HDx.out.map)).trans HM.out)), hid_of (by have h := HLx.out; rw [HL.out] at h; refine ⟨by simpa using h.1, ?_⟩; have := h.2; simp at this; omega), by omega⟩
    · obtain rfl : i = ps.length := by omega
      have h1 := HLx.out
      rw [List.drop_length] at h1
      have e1 : Lc = (layF L ps).1 := h1.1
      have e2 : fr = (layF L ps).2 := by have := h1.2; show fr = _; have h0 : (layF Lc []).2 = 0 := rfl; omega
      subst e2
      have HDf := hid_of (show DK d m (layF L ps).1 wr by rw [← e1]; exact HDx.out)
      go_wp2_with fail
      go_ret
      exact ⟨rfl, HDf.out, HBx.out⟩
theorem mv_below {B m : Nat} {w w' : World} (h : DiBase.Mv m w w') (hm : B ≤ m) (hB : B ≤ w.heap.size) : Below B w w' := h.below (Below.refl _ _) hm hB
theorem dk_fin {d m q : Nat} {L : FL} {w : World} (h : DK d m L w) {x0 x1 x2 x3 : Value} (hq : w.heap[q]? = some (.cells #[x0, x1, x2, x3] 25 (0, 0))) (y0 y1 y2 y3 : Value) : DK d m L (fin4 w q y0 y1 y2 y3) := by
  have hdq : d ≠ q := by
    rintro rfl
    rw [h.blk] at hq
    injection hq with hq
    injection hq with _ hq
    exact absurd hq (by decide)
  have hmq : m ≠ q := by
    rintro rfl
    obtain ⟨es, cc, hm⟩ := DiBase.owns_map h.map
    rw [hm] at hq
    cases hq
  exact ⟨(fin4_ne hdq).trans h.blk, DiBase.owns_later h.map (fin4_ne hmq), h.ris, h.len⟩
set_option maxHeartbeats 4000000 in
set_option maxRecDepth 100000 in
theorem set1_call (b : Nat) (now : Int) (K : ByteArray) {G : Nat → Prop} {a : Option Addr} {n c : Nat} {ps : List Base.El} (B : Nat) (V : World) (q d m : Nat) (L : FL) (hq : V.heap[q]? = some (cO b now K a n c)) (hw : SL G V (.slice a n c) ps) (hev : ps.length % 2 = 0) (hb : ∀ t ∈ ps, t.length ≤ 140737488355328) (hn : L.length + ps.length < 8796093022208) (hB : B ≤ V.heap.size) (hd : DK d m L V) (hm : B ≤ m) :
    Calls Tryz.prog 115 #[ptr d, .pointer (some ⟨q, 0, none⟩)] V fun e w' => e = .returned (rp 3 ⟨#[]⟩ ((layF L ps).2 : Int)) ∧ DK d m (layF L ps).1 w' ∧ Below B V w' := by
  obtain ⟨W, hW⟩ : ∃ W, W = V.alloc (rO 0 ⟨#[]⟩ 0 (.slice none 0 0)) := ⟨_, rfl⟩
  have bW : Below V.heap.size V W := by rw [hW]; exact alb _ _
  have x0 : W.heap[V.heap.size]? = some (rO 0 ⟨#[]⟩ 0 (.slice none 0 0)) := by rw [hW]; exact heap_alloc_new V _
  have HX := hid_of x0
  have xq := (bW.block _ (lt_of hq)).trans hq
  obtain ⟨⟨q0, q1, q2, q3⟩, -⟩ := box4 xq
  have q3a := q3
  rw [hW] at q3a
  have H1 := hid_of (lay_call W d m L (hd.below bW) (hw.below bW) hev hb hn)
  have H2 := hid_of (@count_call)
  have H3 := hid_of (@ok_call)
  have HB := hid_of bW
  have HBB := hid_of hB
  have HW := hid_of hW
  clear hW bW hq hw hev hb hn hd xq x0 hB
  obtain ⟨R, hR⟩ : ∃ R, R = layF L ps := ⟨_, rfl⟩
  rw [← hR] at H1 ⊢
  clear hR
  go_enter Tryz.func115, Tryz.ntmps115
  go_wp2_with fail
  rw [← HW.out]
  go_wp2_with fail
  refine H1.out.mono ?_
  rintro e w1 ⟨rfl, hd1, mv⟩
  have HD1 := hid_of hd1
  have X1 := hid_of (mv.blk HX.out)
  have B1 := hid_of ((HB.out.mono HBB.out).trans (mv_below mv hm (Nat.le_trans HBB.out HB.out.size)))
  have hle1 : V.heap.size ≤ w1.heap.size := Nat.le_of_lt (lt_of X1.out)
  clear hd1 mv H1 q0 q1 q2 q3 q3a
  go_wp2_with fail
  refine (H2.out _ w1).mono ?_
  rintro e w2 ⟨rfl, b2⟩
  have HD2 := HD1.out.below b2
  have X2 := (b2.block _ (lt_of X1.out)).trans X1.out
  have B2 := hid_of (B1.out.trans (b2.mono (Nat.le_trans HBB.out hle1)))
  obtain ⟨⟨v0, v1, v2, v3⟩, fv⟩ := box4 X2
  have fv0 := fv 0; have fv1 := fv 1; have fv2 := fv 2; have fv3 := fv 3
  have hz := fin4_at X2 (.int .i64 3) (.string ⟨#[]⟩) (.int .i64 (R.2 : Int)) (.slice none 0 0)
  have hbz := fin4_b (y0 := .int .i64 3) (y1 := .string ⟨#[]⟩) (y2 := .int .i64 (R.2 : Int)) (y3 := .slice none 0 0) B2.out HBB.out
  have hdz := dk_fin HD2 X2 (.int .i64 3) (.string ⟨#[]⟩) (.int .i64 (R.2 : Int)) (.slice none 0 0)
  unfold fin4 at hz hbz hdz
  have HZ := hid_of (And.intro hbz hdz)
  clear fv b2 HD2 X2 hbz hdz
  go_wp2_with fail
  obtain ⟨⟨g0, g1, g2, g3⟩, -⟩ := box4 hz
  exact bodyPost_ret (v := rp 3 ⟨#[]⟩ (R.2 : Int)) (by simp [results, Tryz.results115, go_sem, g0, g1, g2, g3]) rfl ⟨rfl, HZ.out.2, HZ.out.1⟩
set_option maxHeartbeats 4000000 in
set_option maxRecDepth 100000 in
theorem setSeveral1_call (b : Nat) (now : Int) (K : ByteArray) {G : Nat → Prop} {a : Option Addr} {n c : Nat} {ps : List Base.El} (B : Nat) (V : World) (q d m : Nat) (L : FL) (hq : V.heap[q]? = some (cO b now K a n c)) (hw : SL G V (.slice a n c) ps) (hev : ps.length % 2 = 0) (hb : ∀ t ∈ ps, t.length ≤ 140737488355328) (hn : L.length + ps.length < 8796093022208) (hB : B ≤ V.heap.size) (hd : DK d m L V) (hm : B ≤ m) :
    Calls Tryz.prog 108 #[ptr d, .pointer (some ⟨q, 0, none⟩)] V fun e w' => e = .returned (rp 1 okB 0) ∧ DK d m (layF L ps).1 w' ∧ Below B V w' := by
  obtain ⟨W, hW⟩ : ∃ W, W = V.alloc (rO 0 ⟨#[]⟩ 0 (.slice none 0 0)) := ⟨_, rfl⟩
  have bW : Below V.heap.size V W := by rw [hW]; exact alb _ _
  have x0 : W.heap[V.heap.size]? = some (rO 0 ⟨#[]⟩ 0 (.slice none 0 0)) := by rw [hW]; exact heap_alloc_new V _
  have HX := hid_of x0
  have xq := (bW.block _ (lt_of hq)).trans hq
  obtain ⟨⟨q0, q1, q2, q3⟩, -⟩ := box4 xq
  have q3a := q3
  rw [hW] at q3a
  have H1 := hid_of (lay_call W d m L (hd.below bW) (hw.below bW) hev hb hn)
  have H2 := hid_of (@count_call)
  have H3 := hid_of (@ok_call)
  have HB := hid_of bW
  have HBB := hid_of hB
  have HW := hid_of hW
  clear hW bW hq hw hev hb hn hd xq x0 hB
  obtain ⟨R, hR⟩ : ∃ R, R = layF L ps := ⟨_, rfl⟩
  rw [← hR] at H1 ⊢
  clear hR
  go_enter Tryz.func108, Tryz.ntmps108
  go_wp2_with fail
  rw [← HW.out]
  go_wp2_with fail
  refine H1.out.mono ?_
  rintro e w1 ⟨rfl, hd1, mv⟩
  have HD1 := hid_of hd1
  have X1 := hid_of (mv.blk HX.out)
  have B1 := hid_of ((HB.out.mono HBB.out).trans (mv_below mv hm (Nat.le_trans HBB.out HB.out.size)))
  have hle1 : V.heap.size ≤ w1.heap.size := Nat.le_of_lt (lt_of X1.out)
  clear hd1 mv H1 q0 q1 q2 q3 q3a
  go_wp2_with fail
  refine (H3.out w1).mono ?_
  rintro e w2 ⟨rfl, b2⟩
  have HD2 := HD1.out.below b2
  have X2 := (b2.block _ (lt_of X1.out)).trans X1.out
  have B2 := hid_of (B1.out.trans (b2.mono (Nat.le_trans HBB.out hle1)))
  obtain ⟨⟨v0, v1, v2, v3⟩, fv⟩ := box4 X2
  have fv0 := fv 0; have fv1 := fv 1; have fv2 := fv 2; have fv3 := fv 3
  have hz := fin4_at X2 (.int .i64 1) (.string okB) (.int .i64 0) (.slice none 0 0)
  have hbz := fin4_b (y0 := .int .i64 1) (y1 := .string okB) (y2 := .int .i64 0) (y3 := .slice none 0 0) B2.out HBB.out
  have hdz := dk_fin HD2 X2 (.int .i64 1) (.string okB) (.int .i64 0) (.slice none 0 0)
  unfold fin4 at hz hbz hdz
  have HZ := hid_of (And.intro hbz hdz)
  clear fv b2 HD2 X2 hbz hdz
  go_wp2_with fail
  obtain ⟨⟨g0, g1, g2, g3⟩, -⟩ := box4 hz
  exact bodyPost_ret (v := rp 1 okB 0) (by simp [results, Tryz.results108, go_sem, g0, g1, g2, g3]) rfl ⟨rfl, HZ.out.2, HZ.out.1⟩
end Go.Proofs.YtcgdnpcegcmboaaGreatDoor.HSet
end
