/- Do, for one kind of deed after the other. -/
import Derived.Test.YtilbffbmpgebmaaPair
import Derived.Deep.RegionHeld3
namespace Go.Proofs.Ytilbffbmpgebmaa.DoA
open Go.RowKit Go.Maps
open Go.Proofs.Ytilbffbmpgebmaa.DiskMath
open Go.Proofs.Ytilbffbmpgebmaa.RefMath
open Go.Proofs.Ytilbffbmpgebmaa.Base
open Go.Proofs.Ytilbffbmpgebmaa.Small
open Go.Proofs.Ytilbffbmpgebmaa.File
open Go.Proofs.Ytilbffbmpgebmaa.File2
open Go.Proofs.Ytilbffbmpgebmaa.Append
open Go.Proofs.Ytilbffbmpgebmaa.Ops
open Go.Proofs.Ytilbffbmpgebmaa.Ops2
open Go.Proofs.Ytilbffbmpgebmaa.Ops3
open Go.Proofs.Ytilbffbmpgebmaa.Step
open Go.Proofs.Ytilbffbmpgebmaa.RefBase
open Go.Proofs.Ytilbffbmpgebmaa.RefChange
open Go.Proofs.Ytilbffbmpgebmaa.RefFiles
open Go.Proofs.Ytilbffbmpgebmaa.RefFiles2
open Go.Proofs.Ytilbffbmpgebmaa.RefOps
open Go.Proofs.Ytilbffbmpgebmaa.RefOps2
open Go.Proofs.Ytilbffbmpgebmaa.RefTrunc
open Go.Proofs.Ytilbffbmpgebmaa.Pair
set_option linter.unusedVariables false

set_option maxHeartbeats 2000000 in
set_option maxRecDepth 100000 in
theorem do_create (base b bd : Nat) (d : Dk) (n T : Nat) (A B : ByteArray) (N : Int) (fa : Option Addr) (fn fc : Nat) (cn : Int) (ba : Option Addr) (bn bc : Nat) (w : World) (hp : Pr base b bd d n T w) (hn : n < 1000000000) (hT : T ≤ 1000000000) (hA : A.size ≤ 1000000000) (hB : B.size ≤ 1000000000) :
    Calls Try.prog 10 #[ptr b, ptr bd, .agg #[.int .i64 0, .string A, .string B, .int .i64 N, .slice fa fn fc, .int .i64 cn, .slice ba bn bc]] w fun e w' => e = .returned (.bool true) ∧ Pr base b bd (d.create (bs A)).1 (n + 1) (T) w' ∧ Below base w w' := by
  obtain ⟨W0, hW0⟩ : ∃ W0, W0 = w.alloc (.cells #[.int .i64 0, .string A, .string B, .int .i64 N, .slice fa fn fc, .int .i64 cn, .slice ba bn bc] 38) := ⟨_, rfl⟩
  have b0 : Below w.heap.size w W0 := by rw [hW0]; exact (Below.refl _ w).alloc (Nat.le_refl _) _
  have BX0 : Hid (Bx w #[.int .i64 0, .string A, .string B, .int .i64 N, .slice fa fn fc, .int .i64 cn, .slice ba bn bc] W0) := ⟨by rw [hW0]; exact heap_alloc_new w _⟩
  have P0 := hid_of (hp.below b0)
  have B0 : Hid (Below base w W0) := b0.mono hp.hb
  have hst : d.steps < 1099511627776 := by have := hp.iv.st; omega
  have hst1 : d.steps + 1 < 1099511627776 := by have := hp.iv.st; omega
  have hfl : d.files.length < 1099511627776 := by have := hp.iv.fs; omega
  have ok := hp.ok
  have z := has_z hp.dk
  have hz : ∀ x, d.files[d.file (bs A)]? = some x → x.1.length + B.size ≤ 140737488355328 := fun x hx => by
    have := hp.iv.bl x (List.mem_of_getElem? hx)
    omega
  have IV : Hid (Iv (d.create (bs A)).1 (n + 1) (T)) := hp.iv.create _
  have HC := hid_of (fun (W : World) (hW : Has base b d W) => by
    obtain ⟨y, hy⟩ := hW
    exact create_call base b y d W hy A (by omega) (step_any base b d hst) hst1)
  have HR := hid_of (fun (r : Rl) (W : World) (hW : RD base bd r d W) => rcreate_call base bd r d A W hW ok hst1 hfl)
  unfold ptr at *
  have he := int_same (d.create (bs A)).2
  clear hp b0 ok z hz
  go_enter Try.func10, Try.ntmps10
  go_wp2_with fail
  rw [← hW0]
  clear hW0
  go_region_held3 (fun W => W.cell? ⟨w.heap.size, 1, none⟩ = some (.string A)) (first | exact BX2.out.cell 1 | exact BX1.out.cell 1 | exact BX0.out.cell 1) (first
    | (go_at_call 26; refine Calls.mono (HC.out _ (P0.out.dk.below (bd1 W0))) ?_; rintro e w1 ⟨rfl, h1, ev1⟩; have BX1 := hid_of ((BX0.out.ev (Ev.of_below (T := DT) (base := base) (bd1 W0)) rfl).ev ev1 rfl); have E1 := hid_of ((Ev.of_below (T := DT) (base := base) (bd1 W0)).trans ev1); have R1 := hid_of (rhas_code P0.out.rd E1.out); have HH := hid_of h1; clear h1 ev1)
    | (go_at_call 32; obtain ⟨r1, hr1⟩ := R1.out; refine Calls.mono (HR.out r1 _ hr1) ?_; clear hr1; rintro e w2 ⟨rfl, h2, ev2⟩; have BX2 := hid_of (BX1.out.ev ev2 rfl); have FIN := hid_of (Pr.go P0.out.hb HH.out E1.out h2 ev2 IV.out); clear h2 ev2))
  all_goals
    go_wp2_with fail
    go_ret
    exact ⟨rfl, FIN.out.1, B0.out.trans FIN.out.2⟩
set_option maxHeartbeats 2000000 in
set_option maxRecDepth 100000 in
theorem do_append (base b bd : Nat) (d : Dk) (n T : Nat) (A B : ByteArray) (N : Int) (fa : Option Addr) (fn fc : Nat) (cn : Int) (ba : Option Addr) (bn bc : Nat) (w : World) (hp : Pr base b bd d n T w) (hn : n < 1000000000) (hT : T ≤ 1000000000) (hA : A.size ≤ 1000000000) (hB : B.size ≤ 1000000000) :
    Calls Try.prog 10 #[ptr b, ptr bd, .agg #[.int .i64 1, .string A, .string B, .int .i64 N, .slice fa fn fc, .int .i64 cn, .slice ba bn bc]] w fun e w' => e = .returned (.bool true) ∧ Pr base b bd (d.append (bs A) (bs B)).1 (n + 1) (T + B.size) w' ∧ Below base w w' := by
  obtain ⟨W0, hW0⟩ : ∃ W0, W0 = w.alloc (.cells #[.int .i64 1, .string A, .string B, .int .i64 N, .slice fa fn fc, .int .i64 cn, .slice ba bn bc] 38) := ⟨_, rfl⟩
  have b0 : Below w.heap.size w W0 := by rw [hW0]; exact (Below.refl _ w).alloc (Nat.le_refl _) _
  have BX0 : Hid (Bx w #[.int .i64 1, .string A, .string B, .int .i64 N, .slice fa fn fc, .int .i64 cn, .slice ba bn bc] W0) := ⟨by rw [hW0]; exact heap_alloc_new w _⟩
  have P0 := hid_of (hp.below b0)
  have B0 : Hid (Below base w W0) := b0.mono hp.hb
  have hst : d.steps < 1099511627776 := by have := hp.iv.st; omega
  have hst1 : d.steps + 1 < 1099511627776 := by have := hp.iv.st; omega
  have hfl : d.files.length < 1099511627776 := by have := hp.iv.fs; omega
  have ok := hp.ok
  have z := has_z hp.dk
  have hz : ∀ x, d.files[d.file (bs A)]? = some x → x.1.length + B.size ≤ 140737488355328 := fun x hx => by
    have := hp.iv.bl x (List.mem_of_getElem? hx)
    omega
  have IV : Hid (Iv (d.append (bs A) (bs B)).1 (n + 1) (T + B.size)) := by have := hp.iv.append (bs A) (bs B); rw [len_bs] at this; exact this
  have HC := hid_of (fun (W : World) (hW : Has base b d W) => by
    obtain ⟨y, hy⟩ := hW
    exact append_call base b y d W hy A B (by omega) (step_any base b d hst) hz (by omega))
  have HR := hid_of (fun (r : Rl) (W : World) (hW : RD base bd r d W) => rappend_call base bd r d A B W hW ok hst (fun x hx => (z x hx).2) (by omega))
  unfold ptr at *
  have he := int_same (d.append (bs A) (bs B)).2.2
  have hm := int_same (d.append (bs A) (bs B)).2.1
  clear hp b0 ok z hz
  go_enter Try.func10, Try.ntmps10
  go_wp2_with fail
  rw [← hW0]
  clear hW0
  refine (HC.out _ P0.out.dk).mono ?_
  rintro e w1 ⟨rfl, h1, ev1⟩
  have BX1 := hid_of (BX0.out.ev ev1 rfl)
  have R1 := hid_of (rhas_code P0.out.rd ev1)
  have HH := hid_of (And.intro h1 ev1)
  have y1 : w1.cell? ⟨w.heap.size, 1, none⟩ = some (.string A) := BX1.out.cell 1
  have y2 : w1.cell? ⟨w.heap.size, 2, none⟩ = some (.string B) := BX1.out.cell 2
  clear h1 ev1
  go_wp2_with fail
  obtain ⟨r1, hr1⟩ := R1.out
  refine (HR.out r1 _ hr1).mono ?_
  rintro e w2 ⟨rfl, h2, ev2⟩
  have FIN := hid_of (Pr.go P0.out.hb HH.out.1 HH.out.2 h2 ev2 IV.out)
  clear h2 ev2 hr1
  go_wp2_with fail
  go_ret
  exact ⟨rfl, FIN.out.1, B0.out.trans FIN.out.2⟩
set_option maxHeartbeats 2000000 in
set_option maxRecDepth 100000 in
theorem do_trunc (base b bd : Nat) (d : Dk) (n T : Nat) (A B : ByteArray) (N : Int) (fa : Option Addr) (fn fc : Nat) (cn : Int) (ba : Option Addr) (bn bc : Nat) (w : World) (hp : Pr base b bd d n T w) (hn : n < 1000000000) (hT : T ≤ 1000000000) (hA : A.size ≤ 1000000000) (hB : B.size ≤ 1000000000) :
    Calls Try.prog 10 #[ptr b, ptr bd, .agg #[.int .i64 2, .string A, .string B, .int .i64 N, .slice fa fn fc, .int .i64 cn, .slice ba bn bc]] w fun e w' => e = .returned (.bool true) ∧ Pr base b bd (d.trunc (bs A) N).1 (n + 1) (T) w' ∧ Below base w w' := by
  obtain ⟨W0, hW0⟩ : ∃ W0, W0 = w.alloc (.cells #[.int .i64 2, .string A, .string B, .int .i64 N, .slice fa fn fc, .int .i64 cn, .slice ba bn bc] 38) := ⟨_, rfl⟩
  have b0 : Below w.heap.size w W0 := by rw [hW0]; exact (Below.refl _ w).alloc (Nat.le_refl _) _
  have BX0 : Hid (Bx w #[.int .i64 2, .string A, .string B, .int .i64 N, .slice fa fn fc, .int .i64 cn, .slice ba bn bc] W0) := ⟨by rw [hW0]; exact heap_alloc_new w _⟩
  have P0 := hid_of (hp.below b0)
  have B0 : Hid (Below base w W0) := b0.mono hp.hb
  have hst : d.steps < 1099511627776 := by have := hp.iv.st; omega
  have hst1 : d.steps + 1 < 1099511627776 := by have := hp.iv.st; omega
  have hfl : d.files.length < 1099511627776 := by have := hp.iv.fs; omega
  have ok := hp.ok
  have z := has_z hp.dk
  have hz : ∀ x, d.files[d.file (bs A)]? = some x → x.1.length + B.size ≤ 140737488355328 := fun x hx => by
    have := hp.iv.bl x (List.mem_of_getElem? hx)
    omega
  have IV : Hid (Iv (d.trunc (bs A) N).1 (n + 1) (T)) := hp.iv.trunc _ _
  have HC := hid_of (fun (W : World) (hW : Has base b d W) => by
    obtain ⟨y, hy⟩ := hW
    exact trunc_call base b y d W hy A N (by omega) (step_any base b d hst))
  have HR := hid_of (fun (r : Rl) (W : World) (hW : RD base bd r d W) => rtrunc_call base bd r d A N W hW ok hst z)
  unfold ptr at *
  have he := int_same (d.trunc (bs A) N).2
  clear hp b0 ok z hz
  go_enter Try.func10, Try.ntmps10
  go_wp2_with fail
  rw [← hW0]
  clear hW0
  go_region_held3 (fun W => W.cell? ⟨w.heap.size, 1, none⟩ = some (.string A) ∧ W.cell? ⟨w.heap.size, 3, none⟩ = some (.int .i64 N)) (first | exact ⟨BX2.out.cell 1, BX2.out.cell 3⟩ | exact ⟨BX1.out.cell 1, BX1.out.cell 3⟩ | exact ⟨BX0.out.cell 1, BX0.out.cell 3⟩) (first
    | (go_at_call 29; refine Calls.mono (HC.out _ (P0.out.dk.below (bd1 W0))) ?_; rintro e w1 ⟨rfl, h1, ev1⟩; have BX1 := hid_of ((BX0.out.ev (Ev.of_below (T := DT) (base := base) (bd1 W0)) rfl).ev ev1 rfl); have E1 := hid_of ((Ev.of_below (T := DT) (base := base) (bd1 W0)).trans ev1); have R1 := hid_of (rhas_code P0.out.rd E1.out); have HH := hid_of h1; clear h1 ev1)
    | (go_at_call 34; obtain ⟨r1, hr1⟩ := R1.out; refine Calls.mono (HR.out r1 _ hr1) ?_; clear hr1; rintro e w2 ⟨rfl, h2, ev2⟩; have BX2 := hid_of (BX1.out.ev ev2 rfl); have FIN := hid_of (Pr.go P0.out.hb HH.out E1.out h2 ev2 IV.out); clear h2 ev2))
  all_goals
    go_wp2_with fail
    go_ret
    exact ⟨rfl, FIN.out.1, B0.out.trans FIN.out.2⟩
set_option maxHeartbeats 2000000 in
set_option maxRecDepth 100000 in
theorem do_sync (base b bd : Nat) (d : Dk) (n T : Nat) (A B : ByteArray) (N : Int) (fa : Option Addr) (fn fc : Nat) (cn : Int) (ba : Option Addr) (bn bc : Nat) (w : World) (hp : Pr base b bd d n T w) (hn : n < 1000000000) (hT : T ≤ 1000000000) (hA : A.size ≤ 1000000000) (hB : B.size ≤ 1000000000) :
    Calls Try.prog 10 #[ptr b, ptr bd, .agg #[.int .i64 3, .string A, .string B, .int .i64 N, .slice fa fn fc, .int .i64 cn, .slice ba bn bc]] w fun e w' => e = .returned (.bool true) ∧ Pr base b bd (d.sync (bs A)).1 (n + 1) (T) w' ∧ Below base w w' := by
  obtain ⟨W0, hW0⟩ : ∃ W0, W0 = w.alloc (.cells #[.int .i64 3, .string A, .string B, .int .i64 N, .slice fa fn fc, .int .i64 cn, .slice ba bn bc] 38) := ⟨_, rfl⟩
  have b0 : Below w.heap.size w W0 := by rw [hW0]; exact (Below.refl _ w).alloc (Nat.le_refl _) _
  have BX0 : Hid (Bx w #[.int .i64 3, .string A, .string B, .int .i64 N, .slice fa fn fc, .int .i64 cn, .slice ba bn bc] W0) := ⟨by rw [hW0]; exact heap_alloc_new w _⟩
  have P0 := hid_of (hp.below b0)
  have B0 : Hid (Below base w W0) := b0.mono hp.hb
  have hst : d.steps < 1099511627776 := by have := hp.iv.st; omega
  have hst1 : d.steps + 1 < 1099511627776 := by have := hp.iv.st; omega
  have hfl : d.files.length < 1099511627776 := by have := hp.iv.fs; omega
  have ok := hp.ok
  have z := has_z hp.dk
  have hz : ∀ x, d.files[d.file (bs A)]? = some x → x.1.length + B.size ≤ 140737488355328 := fun x hx => by
    have := hp.iv.bl x (List.mem_of_getElem? hx)
    omega
  have IV : Hid (Iv (d.sync (bs A)).1 (n + 1) (T)) := hp.iv.sync _
  have HC := hid_of (fun (W : World) (hW : Has base b d W) => by
    obtain ⟨y, hy⟩ := hW
    exact sync_call base b y d W hy A (by omega) (step_any base b d hst))
  have HR := hid_of (fun (r : Rl) (W : World) (hW : RD base bd r d W) => rsync_call base bd r d A W hW ok hst (fun x hx => (z x hx).2))
  unfold ptr at *
  have he := int_same (d.sync (bs A)).2
  clear hp b0 ok z hz
  go_enter Try.func10, Try.ntmps10
  go_wp2_with fail
  rw [← hW0]
  clear hW0
  go_region_held3 (fun W => W.cell? ⟨w.heap.size, 1, none⟩ = some (.string A)) (first | exact BX2.out.cell 1 | exact BX1.out.cell 1 | exact BX0.out.cell 1) (first
    | (go_at_call 18; refine Calls.mono (HC.out _ (P0.out.dk.below (bd1 W0))) ?_; rintro e w1 ⟨rfl, h1, ev1⟩; have BX1 := hid_of ((BX0.out.ev (Ev.of_below (T := DT) (base := base) (bd1 W0)) rfl).ev ev1 rfl); have E1 := hid_of ((Ev.of_below (T := DT) (base := base) (bd1 W0)).trans ev1); have R1 := hid_of (rhas_code P0.out.rd E1.out); have HH := hid_of h1; clear h1 ev1)
    | (go_at_call 35; obtain ⟨r1, hr1⟩ := R1.out; refine Calls.mono (HR.out r1 _ hr1) ?_; clear hr1; rintro e w2 ⟨rfl, h2, ev2⟩; have BX2 := hid_of (BX1.out.ev ev2 rfl); have FIN := hid_of (Pr.go P0.out.hb HH.out E1.out h2 ev2 IV.out); clear h2 ev2))
  all_goals
    go_wp2_with fail
    go_ret
    exact ⟨rfl, FIN.out.1, B0.out.trans FIN.out.2⟩
set_option maxHeartbeats 2000000 in
set_option maxRecDepth 100000 in
theorem do_rename (base b bd : Nat) (d : Dk) (n T : Nat) (A B : ByteArray) (N : Int) (fa : Option Addr) (fn fc : Nat) (cn : Int) (ba : Option Addr) (bn bc : Nat) (w : World) (hp : Pr base b bd d n T w) (hn : n < 1000000000) (hT : T ≤ 1000000000) (hA : A.size ≤ 1000000000) (hB : B.size ≤ 1000000000) :
    Calls Try.prog 10 #[ptr b, ptr bd, .agg #[.int .i64 4, .string A, .string B, .int .i64 N, .slice fa fn fc, .int .i64 cn, .slice ba bn bc]] w fun e w' => e = .returned (.bool true) ∧ Pr base b bd (d.rename (bs A) (bs B)).1 (n + 1) (T) w' ∧ Below base w w' := by
  obtain ⟨W0, hW0⟩ : ∃ W0, W0 = w.alloc (.cells #[.int .i64 4, .string A, .string B, .int .i64 N, .slice fa fn fc, .int .i64 cn, .slice ba bn bc] 38) := ⟨_, rfl⟩
  have b0 : Below w.heap.size w W0 := by rw [hW0]; exact (Below.refl _ w).alloc (Nat.le_refl _) _
  have BX0 : Hid (Bx w #[.int .i64 4, .string A, .string B, .int .i64 N, .slice fa fn fc, .int .i64 cn, .slice ba bn bc] W0) := ⟨by rw [hW0]; exact heap_alloc_new w _⟩
  have P0 := hid_of (hp.below b0)
  have B0 : Hid (Below base w W0) := b0.mono hp.hb
  have hst : d.steps < 1099511627776 := by have := hp.iv.st; omega
  have hst1 : d.steps + 1 < 1099511627776 := by have := hp.iv.st; omega
  have hfl : d.files.length < 1099511627776 := by have := hp.iv.fs; omega
  have ok := hp.ok
  have z := has_z hp.dk
  have hz : ∀ x, d.files[d.file (bs A)]? = some x → x.1.length + B.size ≤ 140737488355328 := fun x hx => by
    have := hp.iv.bl x (List.mem_of_getElem? hx)
    omega
  have IV : Hid (Iv (d.rename (bs A) (bs B)).1 (n + 1) (T)) := hp.iv.rename _ _
  have HC := hid_of (fun (W : World) (hW : Has base b d W) => by
    obtain ⟨y, hy⟩ := hW
    exact rename_call base b y d W hy A B (by omega) (by omega) (step_any base b d hst) hst1)
  have HR := hid_of (fun (r : Rl) (W : World) (hW : RD base bd r d W) => rrename_call base bd r d A B W hW ok hst1)
  unfold ptr at *
  have he := int_same (d.rename (bs A) (bs B)).2
  clear hp b0 ok z hz
  go_enter Try.func10, Try.ntmps10
  go_wp2_with fail
  rw [← hW0]
  clear hW0
  go_region_held3 (fun W => W.cell? ⟨w.heap.size, 1, none⟩ = some (.string A) ∧ W.cell? ⟨w.heap.size, 2, none⟩ = some (.string B)) (first | exact ⟨BX2.out.cell 1, BX2.out.cell 2⟩ | exact ⟨BX1.out.cell 1, BX1.out.cell 2⟩ | exact ⟨BX0.out.cell 1, BX0.out.cell 2⟩) (first
    | (go_at_call 30; refine Calls.mono (HC.out _ (P0.out.dk.below (bd1 W0))) ?_; rintro e w1 ⟨rfl, h1, ev1⟩; have BX1 := hid_of ((BX0.out.ev (Ev.of_below (T := DT) (base := base) (bd1 W0)) rfl).ev ev1 rfl); have E1 := hid_of ((Ev.of_below (T := DT) (base := base) (bd1 W0)).trans ev1); have R1 := hid_of (rhas_code P0.out.rd E1.out); have HH := hid_of h1; clear h1 ev1)
    | (go_at_call 36; obtain ⟨r1, hr1⟩ := R1.out; refine Calls.mono (HR.out r1 _ hr1) ?_; clear hr1; rintro e w2 ⟨rfl, h2, ev2⟩; have BX2 := hid_of (BX1.out.ev ev2 rfl); have FIN := hid_of (Pr.go P0.out.hb HH.out E1.out h2 ev2 IV.out); clear h2 ev2))
  all_goals
    go_wp2_with fail
    go_ret
    exact ⟨rfl, FIN.out.1, B0.out.trans FIN.out.2⟩
set_option maxHeartbeats 2000000 in
set_option maxRecDepth 100000 in
theorem do_remove (base b bd : Nat) (d : Dk) (n T : Nat) (A B : ByteArray) (N : Int) (fa : Option Addr) (fn fc : Nat) (cn : Int) (ba : Option Addr) (bn bc : Nat) (w : World) (hp : Pr base b bd d n T w) (hn : n < 1000000000) (hT : T ≤ 1000000000) (hA : A.size ≤ 1000000000) (hB : B.size ≤ 1000000000) :
    Calls Try.prog 10 #[ptr b, ptr bd, .agg #[.int .i64 5, .string A, .string B, .int .i64 N, .slice fa fn fc, .int .i64 cn, .slice ba bn bc]] w fun e w' => e = .returned (.bool true) ∧ Pr base b bd (d.remove (bs A)).1 (n + 1) (T) w' ∧ Below base w w' := by
  obtain ⟨W0, hW0⟩ : ∃ W0, W0 = w.alloc (.cells #[.int .i64 5, .string A, .string B, .int .i64 N, .slice fa fn fc, .int .i64 cn, .slice ba bn bc] 38) := ⟨_, rfl⟩
  have b0 : Below w.heap.size w W0 := by rw [hW0]; exact (Below.refl _ w).alloc (Nat.le_refl _) _
  have BX0 : Hid (Bx w #[.int .i64 5, .string A, .string B, .int .i64 N, .slice fa fn fc, .int .i64 cn, .slice ba bn bc] W0) := ⟨by rw [hW0]; exact heap_alloc_new w _⟩
  have P0 := hid_of (hp.below b0)
  have B0 : Hid (Below base w W0) := b0.mono hp.hb
  have hst : d.steps < 1099511627776 := by have := hp.iv.st; omega
  have hst1 : d.steps + 1 < 1099511627776 := by have := hp.iv.st; omega
  have hfl : d.files.length < 1099511627776 := by have := hp.iv.fs; omega
  have ok := hp.ok
  have z := has_z hp.dk
  have hz : ∀ x, d.files[d.file (bs A)]? = some x → x.1.length + B.size ≤ 140737488355328 := fun x hx => by
    have := hp.iv.bl x (List.mem_of_getElem? hx)
    omega
  have IV : Hid (Iv (d.remove (bs A)).1 (n + 1) (T)) := hp.iv.remove _
  have HC := hid_of (fun (W : World) (hW : Has base b d W) => by
    obtain ⟨y, hy⟩ := hW
    exact remove_call base b y d W hy A (by omega) (step_any base b d hst) hst1)
  have HR := hid_of (fun (r : Rl) (W : World) (hW : RD base bd r d W) => rremove_call base bd r d A W hW ok hst1)
  unfold ptr at *
  have he := int_same (d.remove (bs A)).2
  clear hp b0 ok z hz
  go_enter Try.func10, Try.ntmps10
  go_wp2_with fail
  rw [← hW0]
  clear hW0
  go_region_held3 (fun W => W.cell? ⟨w.heap.size, 1, none⟩ = some (.string A)) (first | exact BX2.out.cell 1 | exact BX1.out.cell 1 | exact BX0.out.cell 1) (first
    | (go_at_call 31; refine Calls.mono (HC.out _ (P0.out.dk.below (bd1 W0))) ?_; rintro e w1 ⟨rfl, h1, ev1⟩; have BX1 := hid_of ((BX0.out.ev (Ev.of_below (T := DT) (base := base) (bd1 W0)) rfl).ev ev1 rfl); have E1 := hid_of ((Ev.of_below (T := DT) (base := base) (bd1 W0)).trans ev1); have R1 := hid_of (rhas_code P0.out.rd E1.out); have HH := hid_of h1; clear h1 ev1)
    | (go_at_call 37; obtain ⟨r1, hr1⟩ := R1.out; refine Calls.mono (HR.out r1 _ hr1) ?_; clear hr1; rintro e w2 ⟨rfl, h2, ev2⟩; have BX2 := hid_of (BX1.out.ev ev2 rfl); have FIN := hid_of (Pr.go P0.out.hb HH.out E1.out h2 ev2 IV.out); clear h2 ev2))
  all_goals
    go_wp2_with fail
    go_ret
    exact ⟨rfl, FIN.out.1, B0.out.trans FIN.out.2⟩
set_option maxHeartbeats 2000000 in
set_option maxRecDepth 100000 in
theorem do_syncNames (base b bd : Nat) (d : Dk) (n T : Nat) (A B : ByteArray) (N : Int) (fa : Option Addr) (fn fc : Nat) (cn : Int) (ba : Option Addr) (bn bc : Nat) (w : World) (hp : Pr base b bd d n T w) (hn : n < 1000000000) (hT : T ≤ 1000000000) (hA : A.size ≤ 1000000000) (hB : B.size ≤ 1000000000) :
    Calls Try.prog 10 #[ptr b, ptr bd, .agg #[.int .i64 6, .string A, .string B, .int .i64 N, .slice fa fn fc, .int .i64 cn, .slice ba bn bc]] w fun e w' => e = .returned (.bool true) ∧ Pr base b bd (d.syncNames).1 (n + 1) (T) w' ∧ Below base w w' := by
  obtain ⟨W0, hW0⟩ : ∃ W0, W0 = w.alloc (.cells #[.int .i64 6, .string A, .string B, .int .i64 N, .slice fa fn fc, .int .i64 cn, .slice ba bn bc] 38) := ⟨_, rfl⟩
  have b0 : Below w.heap.size w W0 := by rw [hW0]; exact (Below.refl _ w).alloc (Nat.le_refl _) _
  have BX0 : Hid (Bx w #[.int .i64 6, .string A, .string B, .int .i64 N, .slice fa fn fc, .int .i64 cn, .slice ba bn bc] W0) := ⟨by rw [hW0]; exact heap_alloc_new w _⟩
  have P0 := hid_of (hp.below b0)
  have B0 : Hid (Below base w W0) := b0.mono hp.hb
  have hst : d.steps < 1099511627776 := by have := hp.iv.st; omega
  have hst1 : d.steps + 1 < 1099511627776 := by have := hp.iv.st; omega
  have hfl : d.files.length < 1099511627776 := by have := hp.iv.fs; omega
  have ok := hp.ok
  have z := has_z hp.dk
  have hz : ∀ x, d.files[d.file (bs A)]? = some x → x.1.length + B.size ≤ 140737488355328 := fun x hx => by
    have := hp.iv.bl x (List.mem_of_getElem? hx)
    omega
  have IV : Hid (Iv (d.syncNames).1 (n + 1) (T)) := hp.iv.syncNames
  have HC := hid_of (fun (W : World) (hW : Has base b d W) => by
    obtain ⟨y, hy⟩ := hW
    exact syncNames_call base b y d W hy (step_any base b d hst) hst1)
  have HR := hid_of (fun (r : Rl) (W : World) (hW : RD base bd r d W) => rsyncNames_call base bd r d W hW hst hp.iv.con)
  unfold ptr at *
  have he := int_same (d.syncNames).2
  clear hp b0 ok z hz
  go_enter Try.func10, Try.ntmps10
  go_wp2_with fail
  rw [← hW0]
  clear hW0
  refine (HC.out _ P0.out.dk).mono ?_
  rintro e w1 ⟨rfl, h1, ev1⟩
  have BX1 := hid_of (BX0.out.ev ev1 rfl)
  have R1 := hid_of (rhas_code P0.out.rd ev1)
  have HH := hid_of (And.intro h1 ev1)
  clear h1 ev1
  go_wp2_with fail
  obtain ⟨r1, hr1⟩ := R1.out
  refine (HR.out r1 _ hr1).mono ?_
  rintro e w2 ⟨rfl, h2, ev2⟩
  have FIN := hid_of (Pr.go P0.out.hb HH.out.1 HH.out.2 h2 ev2 IV.out)
  clear h2 ev2 hr1
  go_wp2_with fail
  go_ret
  exact ⟨rfl, FIN.out.1, B0.out.trans FIN.out.2⟩
set_option maxRecDepth 100000 in
theorem do_none (K : Int) (hK : K < 0 ∨ 8 < K) (base b bd : Nat) (d : Dk) (n T : Nat) (A B : ByteArray) (N : Int) (fa : Option Addr) (fn fc : Nat) (cn : Int) (ba : Option Addr) (bn bc : Nat) (w : World) (hp : Pr base b bd d n T w) :
    Calls Try.prog 10 #[ptr b, ptr bd, .agg #[.int .i64 K, .string A, .string B, .int .i64 N, .slice fa fn fc, .int .i64 cn, .slice ba bn bc]] w fun e w' => e = .returned (.bool true) ∧ Pr base b bd d (n + 1) T w' ∧ Below base w w' := by
  have b0 : Hid (Below w.heap.size w (w.alloc (.cells #[.int .i64 K, .string A, .string B, .int .i64 N, .slice fa fn fc, .int .i64 cn, .slice ba bn bc] 38))) := (Below.refl _ w).alloc (Nat.le_refl _) _
  have HP := hid_of hp
  have k0 : (K == 0) = false := by rw [beq_eq_false_iff_ne]; omega
  have k1 : (K == 1) = false := by rw [beq_eq_false_iff_ne]; omega
  have k2 : (K == 2) = false := by rw [beq_eq_false_iff_ne]; omega
  have k3 : (K == 3) = false := by rw [beq_eq_false_iff_ne]; omega
  have k4 : (K == 4) = false := by rw [beq_eq_false_iff_ne]; omega
  have k5 : (K == 5) = false := by rw [beq_eq_false_iff_ne]; omega
  have k6 : (K == 6) = false := by rw [beq_eq_false_iff_ne]; omega
  have k7 : (K == 7) = false := by rw [beq_eq_false_iff_ne]; omega
  have k8 : (K == 8) = false := by rw [beq_eq_false_iff_ne]; omega
  clear hp hK
  unfold ptr
  go_enter Try.func10, Try.ntmps10
  go_wp2_with fail
  go_ret
  have h1 := HP.out.below b0.out
  exact ⟨rfl, ⟨h1.dk, h1.rd, h1.iv.more (Nat.le_succ _) (Nat.le_refl _)⟩, b0.out.mono HP.out.hb⟩
end Go.Proofs.Ytilbffbmpgebmaa.DoA
