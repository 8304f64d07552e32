/- checked, Check. A reader that goes along bytes, and what it has failed at: against the reading of ValueMath. The contracts of num.Unfix and of the document's own Unfix. -/
import Derived.Test.YtminfpkigenahaaGreatDoorSTouchM
import Derived.Test.YtminfpkigenahaaGreatDoorFixMathM
import Derived.Test.YtminfpkigenahaaGreatDoorRows
import Derived.Test.YtminfpkigenahaaGreatDoorCallRowSM
import Derived.WalkKit
import Derived.Below
section
namespace Go.Proofs.YtminfpkigenahaaGreatDoor.Check
open Go.RowKit Go.Maps
open Go.Proofs.YtminfpkigenahaaGreatDoor.SetMath
open Go.Proofs.YtminfpkigenahaaGreatDoor.ValueMath
open Go.Proofs.YtminfpkigenahaaGreatDoor.Base
open Go.Proofs.YtminfpkigenahaaGreatDoor.Vals
open Go.Proofs.YtminfpkigenahaaGreatDoor.May
open Go.Proofs.YtminfpkigenahaaGreatDoor.MayR
open Go.Proofs.YtminfpkigenahaaGreatDoor.Check0
set_option linter.unusedVariables false
set_option linter.unusedSimpArgs false

set_option maxHeartbeats 2000000 in
set_option maxRecDepth 100000 in
theorem raw1 (X : ByteArray) (aa ba ca : Option Addr) (an bn cn ac bc cc : Nat) (st mb : Bool) (w : World)
    (HS : Hid (∀ W, Below w.heap.size w W → Calls Tryz.prog 32 #[.agg #[.int .i64 1, .string X, .slice aa an ac, .slice ba bn bc, .slice ca cn cc]] W fun e w' => e = .returned (.bool st) ∧ Below W.heap.size W w'))
    (HM : Hid (∀ W, Below w.heap.size w W → Calls Tryz.prog 222 #[.string X] W fun e w' => e = .returned (.bool mb) ∧ Below W.heap.size W w')) :
    Calls Tryz.prog 20 #[.agg #[.int .i64 1, .string X, .slice aa an ac, .slice ba bn bc, .slice ca cn cc]] w fun e w' => e = .returned (.tuple #[if (st || !mb) then .nilIface else .iface 106 (.string X), .int .i64 (if (st || !mb) then 131 else 0)]) ∧ Below w.heap.size w w' := by
  have HC := hid_of fun W => content_call 1 X aa ba ca an bn cn ac bc cc W
  rw [show cv 1 (.string X) (.slice aa an ac) (.slice ba bn bc) (.slice ca cn cc) = .iface 106 (.string X) from rfl] at HC
  obtain ⟨V, hV⟩ : ∃ V, V = w.alloc (.cells #[.int .i64 1, .string X, .slice aa an ac, .slice ba bn bc, .slice ca cn cc] 30) := ⟨_, rfl⟩
  have bV : Below w.heap.size w V := by rw [hV]; exact FRow.bnew w _
  have v0 : V.heap[w.heap.size]? = some (.cells #[.int .i64 1, .string X, .slice aa an ac, .slice ba bn bc, .slice ca cn cc] 30 (0, 0)) := by rw [hV]; exact heap_alloc_new w _
  have HV := hid_of hV
  have HB := hid_of bV
  have HX := hid_of fun (W : World) (hW : Below V.heap.size V W) => box5 ((hW.block _ (lt_of v0)).trans v0)
  clear v0 bV hV
  go_enter Tryz.func20, Tryz.ntmps20
  go_wp2_with fail
  rw [← HV.out]
  refine (HC.out V).mono ?_
  rintro e w1 ⟨rfl, b1⟩
  obtain ⟨⟨c0, c1, c2, c3, c4⟩, _⟩ := HX.out w1 b1
  have B1 := hid_of (FRow.bel HB.out b1 (Nat.le_refl _))
  clear b1 HC HX
  go_wp2_with fail
  refine (HS.out w1 B1.out).mono ?_
  rintro e w2 ⟨rfl, b2⟩
  have B2 := hid_of (FRow.bel B1.out b2 (Nat.le_refl _))
  clear b2 HS c0 c1 c2 c3 c4
  cases st
  · go_wp2_with fail
    refine (HM.out w2 B2.out).mono ?_
    rintro e w3 ⟨rfl, b3⟩
    have B3 := hid_of (FRow.bel B2.out b3 (Nat.le_refl _))
    clear b3 HM
    cases mb
    · go_wp2_with fail
      go_ret2
      exact ⟨rfl, B3.out⟩
    · go_wp2_with fail
      go_ret2
      exact ⟨rfl, B3.out⟩
  · go_wp2_with fail
    go_ret2
    exact ⟨rfl, B2.out⟩

set_option maxHeartbeats 2000000 in
set_option maxRecDepth 100000 in
theorem raw2 (X : ByteArray) (aa ba ca : Option Addr) (an bn cn ac bc cc : Nat) (st mb : Bool) (w : World)
    (HS : Hid (∀ W, Below w.heap.size w W → Calls Tryz.prog 32 #[.agg #[.int .i64 2, .string X, .slice aa an ac, .slice ba bn bc, .slice ca cn cc]] W fun e w' => e = .returned (.bool st) ∧ Below W.heap.size W w'))
    (HM : Hid (∀ W, Below w.heap.size w W → Calls Tryz.prog 228 #[.slice aa an ac] W fun e w' => e = .returned (.bool mb) ∧ Below W.heap.size W w')) :
    Calls Tryz.prog 20 #[.agg #[.int .i64 2, .string X, .slice aa an ac, .slice ba bn bc, .slice ca cn cc]] w fun e w' => e = .returned (.tuple #[if (st || !mb) then .nilIface else .iface 107 (.slice aa an ac), .int .i64 (if (st || !mb) then 131 else 0)]) ∧ Below w.heap.size w w' := by
  have HC := hid_of fun W => content_call 2 X aa ba ca an bn cn ac bc cc W
  rw [show cv 2 (.string X) (.slice aa an ac) (.slice ba bn bc) (.slice ca cn cc) = .iface 107 (.slice aa an ac) from rfl] at HC
  obtain ⟨V, hV⟩ : ∃ V, V = w.alloc (.cells #[.int .i64 2, .string X, .slice aa an ac, .slice ba bn bc, .slice ca cn cc] 30) := ⟨_, rfl⟩
  have bV : Below w.heap.size w V := by rw [hV]; exact FRow.bnew w _
  have v0 : V.heap[w.heap.size]? = some (.cells #[.int .i64 2, .string X, .slice aa an ac, .slice ba bn bc, .slice ca cn cc] 30 (0, 0)) := by rw [hV]; exact heap_alloc_new w _
  have HV := hid_of hV
  have HB := hid_of bV
  have HX := hid_of fun (W : World) (hW : Below V.heap.size V W) => box5 ((hW.block _ (lt_of v0)).trans v0)
  clear v0 bV hV
  go_enter Tryz.func20, Tryz.ntmps20
  go_wp2_with fail
  rw [← HV.out]
  refine (HC.out V).mono ?_
  rintro e w1 ⟨rfl, b1⟩
  obtain ⟨⟨c0, c1, c2, c3, c4⟩, _⟩ := HX.out w1 b1
  have B1 := hid_of (FRow.bel HB.out b1 (Nat.le_refl _))
  clear b1 HC HX
  go_wp2_with fail
  refine (HS.out w1 B1.out).mono ?_
  rintro e w2 ⟨rfl, b2⟩
  have B2 := hid_of (FRow.bel B1.out b2 (Nat.le_refl _))
  clear b2 HS c0 c1 c2 c3 c4
  cases st
  · go_wp2_with fail
    refine (HM.out w2 B2.out).mono ?_
    rintro e w3 ⟨rfl, b3⟩
    have B3 := hid_of (FRow.bel B2.out b3 (Nat.le_refl _))
    clear b3 HM
    cases mb
    · go_wp2_with fail
      go_ret2
      exact ⟨rfl, B3.out⟩
    · go_wp2_with fail
      go_ret2
      exact ⟨rfl, B3.out⟩
  · go_wp2_with fail
    go_ret2
    exact ⟨rfl, B2.out⟩

set_option maxHeartbeats 2000000 in
set_option maxRecDepth 100000 in
theorem raw3 (X : ByteArray) (aa ba ca : Option Addr) (an bn cn ac bc cc : Nat) (st mb : Bool) (w : World)
    (HS : Hid (∀ W, Below w.heap.size w W → Calls Tryz.prog 32 #[.agg #[.int .i64 3, .string X, .slice aa an ac, .slice ba bn bc, .slice ca cn cc]] W fun e w' => e = .returned (.bool st) ∧ Below W.heap.size W w'))
    (HM : Hid (∀ W, Below w.heap.size w W → Calls Tryz.prog 231 #[.slice ba bn bc] W fun e w' => e = .returned (.bool mb) ∧ Below W.heap.size W w')) :
    Calls Tryz.prog 20 #[.agg #[.int .i64 3, .string X, .slice aa an ac, .slice ba bn bc, .slice ca cn cc]] w fun e w' => e = .returned (.tuple #[if (st || !mb) then .nilIface else .iface 108 (.slice ba bn bc), .int .i64 (if (st || !mb) then 131 else 0)]) ∧ Below w.heap.size w w' := by
  have HC := hid_of fun W => content_call 3 X aa ba ca an bn cn ac bc cc W
  rw [show cv 3 (.string X) (.slice aa an ac) (.slice ba bn bc) (.slice ca cn cc) = .iface 108 (.slice ba bn bc) from rfl] at HC
  obtain ⟨V, hV⟩ : ∃ V, V = w.alloc (.cells #[.int .i64 3, .string X, .slice aa an ac, .slice ba bn bc, .slice ca cn cc] 30) := ⟨_, rfl⟩
  have bV : Below w.heap.size w V := by rw [hV]; exact FRow.bnew w _
  have v0 : V.heap[w.heap.size]? = some (.cells #[.int .i64 3, .string X, .slice aa an ac, .slice ba bn bc, .slice ca cn cc] 30 (0, 0)) := by rw [hV]; exact heap_alloc_new w _
  have HV := hid_of hV
  have HB := hid_of bV
  have HX := hid_of fun (W : World) (hW : Below V.heap.size V W) => box5 ((hW.block _ (lt_of v0)).trans v0)
  clear v0 bV hV
  go_enter Tryz.func20, Tryz.ntmps20
  go_wp2_with fail
  rw [← HV.out]
  refine (HC.out V).mono ?_
  rintro e w1 ⟨rfl, b1⟩
  obtain ⟨⟨c0, c1, c2, c3, c4⟩, _⟩ := HX.out w1 b1
  have B1 := hid_of (FRow.bel HB.out b1 (Nat.le_refl _))
  clear b1 HC HX
  go_wp2_with fail
  refine (HS.out w1 B1.out).mono ?_
  rintro e w2 ⟨rfl, b2⟩
  have B2 := hid_of (FRow.bel B1.out b2 (Nat.le_refl _))
  clear b2 HS c0 c1 c2 c3 c4
  cases st
  · go_wp2_with fail
    refine (HM.out w2 B2.out).mono ?_
    rintro e w3 ⟨rfl, b3⟩
    have B3 := hid_of (FRow.bel B2.out b3 (Nat.le_refl _))
    clear b3 HM
    cases mb
    · go_wp2_with fail
      go_ret2
      exact ⟨rfl, B3.out⟩
    · go_wp2_with fail
      go_ret2
      exact ⟨rfl, B3.out⟩
  · go_wp2_with fail
    go_ret2
    exact ⟨rfl, B2.out⟩

set_option maxHeartbeats 2000000 in
set_option maxRecDepth 100000 in
theorem raw4 (X : ByteArray) (aa ba ca : Option Addr) (an bn cn ac bc cc : Nat) (st mb : Bool) (w : World)
    (HS : Hid (∀ W, Below w.heap.size w W → Calls Tryz.prog 32 #[.agg #[.int .i64 4, .string X, .slice aa an ac, .slice ba bn bc, .slice ca cn cc]] W fun e w' => e = .returned (.bool st) ∧ Below W.heap.size W w'))
    (HM : Hid (∀ W, Below w.heap.size w W → Calls Tryz.prog 234 #[.slice aa an ac] W fun e w' => e = .returned (.bool mb) ∧ Below W.heap.size W w')) :
    Calls Tryz.prog 20 #[.agg #[.int .i64 4, .string X, .slice aa an ac, .slice ba bn bc, .slice ca cn cc]] w fun e w' => e = .returned (.tuple #[if (st || !mb) then .nilIface else .iface 109 (.slice aa an ac), .int .i64 (if (st || !mb) then 131 else 0)]) ∧ Below w.heap.size w w' := by
  have HC := hid_of fun W => content_call 4 X aa ba ca an bn cn ac bc cc W
  rw [show cv 4 (.string X) (.slice aa an ac) (.slice ba bn bc) (.slice ca cn cc) = .iface 109 (.slice aa an ac) from rfl] at HC
  obtain ⟨V, hV⟩ : ∃ V, V = w.alloc (.cells #[.int .i64 4, .string X, .slice aa an ac, .slice ba bn bc, .slice ca cn cc] 30) := ⟨_, rfl⟩
  have bV : Below w.heap.size w V := by rw [hV]; exact FRow.bnew w _
  have v0 : V.heap[w.heap.size]? = some (.cells #[.int .i64 4, .string X, .slice aa an ac, .slice ba bn bc, .slice ca cn cc] 30 (0, 0)) := by rw [hV]; exact heap_alloc_new w _
  have HV := hid_of hV
  have HB := hid_of bV
  have HX := hid_of fun (W : World) (hW : Below V.heap.size V W) => box5 ((hW.block _ (lt_of v0)).trans v0)
  clear v0 bV hV
  go_enter Tryz.func20, Tryz.ntmps20
  go_wp2_with fail
  rw [← HV.out]
  refine (HC.out V).mono ?_
  rintro e w1 ⟨rfl, b1⟩
  obtain ⟨⟨c0, c1, c2, c3, c4⟩, _⟩ := HX.out w1 b1
  have B1 := hid_of (FRow.bel HB.out b1 (Nat.le_refl _))
  clear b1 HC HX
  go_wp2_with fail
  refine (HS.out w1 B1.out).mono ?_
  rintro e w2 ⟨rfl, b2⟩
  have B2 := hid_of (FRow.bel B1.out b2 (Nat.le_refl _))
  clear b2 HS c0 c1 c2 c3 c4
  cases st
  · go_wp2_with fail
    refine (HM.out w2 B2.out).mono ?_
    rintro e w3 ⟨rfl, b3⟩
    have B3 := hid_of (FRow.bel B2.out b3 (Nat.le_refl _))
    clear b3 HM
    cases mb
    · go_wp2_with fail
      go_ret2
      exact ⟨rfl, B3.out⟩
    · go_wp2_with fail
      go_ret2
      exact ⟨rfl, B3.out⟩
  · go_wp2_with fail
    go_ret2
    exact ⟨rfl, B2.out⟩

set_option maxHeartbeats 2000000 in
set_option maxRecDepth 100000 in
theorem raw5 (X : ByteArray) (aa ba ca : Option Addr) (an bn cn ac bc cc : Nat) (st mb : Bool) (w : World)
    (HS : Hid (∀ W, Below w.heap.size w W → Calls Tryz.prog 32 #[.agg #[.int .i64 5, .string X, .slice aa an ac, .slice ba bn bc, .slice ca cn cc]] W fun e w' => e = .returned (.bool st) ∧ Below W.heap.size W w'))
    (HM : Hid (∀ W, Below w.heap.size w W → Calls Tryz.prog 238 #[.slice ca cn cc] W fun e w' => e = .returned (.bool mb) ∧ Below W.heap.size W w')) :
    Calls Tryz.prog 20 #[.agg #[.int .i64 5, .string X, .slice aa an ac, .slice ba bn bc, .slice ca cn cc]] w fun e w' => e = .returned (.tuple #[if (st || !mb) then .nilIface else .iface 110 (.slice ca cn cc), .int .i64 (if (st || !mb) then 131 else 0)]) ∧ Below w.heap.size w w' := by
  have HC := hid_of fun W => content_call 5 X aa ba ca an bn cn ac bc cc W
  rw [show cv 5 (.string X) (.slice aa an ac) (.slice ba bn bc) (.slice ca cn cc) = .iface 110 (.slice ca cn cc) from rfl] at HC
  obtain ⟨V, hV⟩ : ∃ V, V = w.alloc (.cells #[.int .i64 5, .string X, .slice aa an ac, .slice ba bn bc, .slice ca cn cc] 30) := ⟨_, rfl⟩
  have bV : Below w.heap.size w V := by rw [hV]; exact FRow.bnew w _
  have v0 : V.heap[w.heap.size]? = some (.cells #[.int .i64 5, .string X, .slice aa an ac, .slice ba bn bc, .slice ca cn cc] 30 (0, 0)) := by rw [hV]; exact heap_alloc_new w _
  have HV := hid_of hV
  have HB := hid_of bV
  have HX := hid_of fun (W : World) (hW : Below V.heap.size V W) => box5 ((hW.block _ (lt_of v0)).trans v0)
  clear v0 bV hV
  go_enter Tryz.func20, Tryz.ntmps20
  go_wp2_with fail
  rw [← HV.out]
  refine (HC.out V).mono ?_
  rintro e w1 ⟨rfl, b1⟩
  obtain ⟨⟨c0, c1, c2, c3, c4⟩, _⟩ := HX.out w1 b1
  have B1 := hid_of (FRow.bel HB.out b1 (Nat.le_refl _))
  clear b1 HC HX
  go_wp2_with fail
  refine (HS.out w1 B1.out).mono ?_
  rintro e w2 ⟨rfl, b2⟩
  have B2 := hid_of (FRow.bel B1.out b2 (Nat.le_refl _))
  clear b2 HS c0 c1 c2 c3 c4
  cases st
  · go_wp2_with fail
    refine (HM.out w2 B2.out).mono ?_
    rintro e w3 ⟨rfl, b3⟩
    have B3 := hid_of (FRow.bel B2.out b3 (Nat.le_refl _))
    clear b3 HM
    cases mb
    · go_wp2_with fail
      go_ret2
      exact ⟨rfl, B3.out⟩
    · go_wp2_with fail
      go_ret2
      exact ⟨rfl, B3.out⟩
  · go_wp2_with fail
    go_ret2
    exact ⟨rfl, B2.out⟩

set_option maxHeartbeats 2000000 in
set_option maxRecDepth 100000 in
theorem raw0 (k : Int) (hk : k < 1 ∨ 5 < k) (X : ByteArray) (aa ba ca : Option Addr) (an bn cn ac bc cc : Nat) (w : World) :
    Calls Tryz.prog 20 #[.agg #[.int .i64 k, .string X, .slice aa an ac, .slice ba bn bc, .slice ca cn cc]] w fun e w' => e = .returned (.tuple #[.nilIface, .int .i64 130]) ∧ Below w.heap.size w w' := by
  have HC := hid_of fun W => content_call k X aa ba ca an bn cn ac bc cc W
  rw [show cv k (.string X) (.slice aa an ac) (.slice ba bn bc) (.slice ca cn cc) = .nilIface from by unfold cv; rw [if_neg (by omega), if_neg (by omega), if_neg (by omega), if_neg (by omega), if_neg (by omega)]] at HC
  obtain ⟨V, hV⟩ : ∃ V, V = w.alloc (.cells #[.int .i64 k, .string X, .slice aa an ac, .slice ba bn bc, .slice ca cn cc] 30) := ⟨_, rfl⟩
  have bV : Below w.heap.size w V := by rw [hV]; exact FRow.bnew w _
  have HV := hid_of hV
  have HB := hid_of bV
  clear bV hV
  go_enter Tryz.func20, Tryz.ntmps20
  go_wp2_with fail
  rw [← HV.out]
  refine (HC.out V).mono ?_
  rintro e w1 ⟨rfl, b1⟩
  have B1 := hid_of (FRow.bel HB.out b1 (Nat.le_refl _))
  clear b1 HC
  go_wp2_with fail
  go_ret2
  exact ⟨rfl, B1.out⟩
/- what checked answers -/
def ckC (x : Vl) (a b c : Value) : Value := if chk x = 0 then cv x.kind (.string (mk x.text)) a b c else .nilIface
theorem chk_k {x : Vl} (h : 1 ≤ x.kind ∧ x.kind ≤ 5) : chk x = if (stray x || !mayBe x) then 131 else 0 := by
  unfold chk
  rw [if_neg (by omega)]
  cases stray x <;> cases mayBe x <;> simp
theorem checked_call {w : World} {a b c : Value} {x : Vl} (h1 : SL TT w a x.list) (h2 : FRow.FS w b x.fields) (h3 : ERow.FS w c x.ranked) (hf : Wel x) :
    Calls Tryz.prog 20 #[.agg #[.int .i64 x.kind, .string (mk x.text), a, b, c]] w fun e w' => e = .returned (.tuple #[ckC x a b c, .int .i64 (chk x)]) ∧ Below w.heap.size w w' := by
  by_cases hk : x.kind < 1 ∨ 5 < x.kind
  · obtain ⟨aa, ac, rfl, _, _⟩ := id h1
    obtain ⟨ba, bc, rfl, _, _⟩ := id h2
    obtain ⟨ca, cc, rfl, _, _⟩ := id h3
    refine (raw0 x.kind hk (mk x.text) aa ba ca _ _ _ ac bc cc w).mono fun e w' ⟨q1, q2⟩ => ⟨?_, q2⟩
    have e1 : chk x = 130 := by unfold chk; rw [if_pos hk]
    rw [q1]
    unfold ckC
    rw [e1]
    rfl
  · have HS : Hid (∀ W, Below w.heap.size w W → Calls Tryz.prog 32 #[.agg #[.int .i64 x.kind, .string (mk x.text), a, b, c]] W fun e w' => e = .returned (.bool (stray x)) ∧ Below W.heap.size W w') := hid_of fun W hW => by
      obtain ⟨aa, ac, rfl, _, _⟩ := id h1
      obtain ⟨ba, bc, rfl, _, _⟩ := id h2
      obtain ⟨ca, cc, rfl, _, _⟩ := id h3
      rw [stray_eq]
      refine Stray.stray_raw x.kind (by omega) (mk x.text) aa ba ca _ _ _ ac bc cc _ _ _ _ ?_ ?_ ?_ ?_ ?_ ?_ ?_ W
      · rw [mk_list]; cases x.text <;> rfl
      · rw [nil_len]; simp
      · rw [nil_len]; simp
      · rw [nil_len]; simp
      · rw [nil_len]
      · rw [nil_len]
      · rw [nil_len]
    have hl := hf.l
    have hr := hf.r24
    have hff := hf.f
    have fin : ∀ (V : Value), (1 ≤ x.kind ∧ x.kind ≤ 5) → cv x.kind (.string (mk x.text)) a b c = V → ∀ (e : Ending) (w' : World), (e = .returned (.tuple #[if (stray x || !mayBe x) then .nilIface else V, .int .i64 (if (stray x || !mayBe x) then 131 else 0)]) ∧ Below w.heap.size w w') → (e = .returned (.tuple #[ckC x a b c, .int .i64 (chk x)]) ∧ Below w.heap.size w w') := fun V hkk hcv e w' ⟨q1, q2⟩ => by
      refine ⟨?_, q2⟩
      rw [q1]
      unfold ckC
      rw [hcv, chk_k hkk]
      cases (stray x || !mayBe x) <;> rfl
    rcases (show x.kind = 1 ∨ x.kind = 2 ∨ x.kind = 3 ∨ x.kind = 4 ∨ x.kind = 5 by omega) with q | q | q | q | q
    · have HM : Hid (∀ W, Below w.heap.size w W → Calls Tryz.prog 222 #[.string (mk x.text)] W fun e w' => e = .returned (.bool (mayBe x)) ∧ Below W.heap.size W w') := hid_of fun W hW => (text_call x.text W hf.t).mono fun e w' ⟨p1, p2⟩ => ⟨by rw [p1]; unfold mayBe; rw [if_pos q], by rw [p2]; exact Below.refl _ _⟩
      have f := fin (.iface 106 (.string (mk x.text))) (by omega) (by rw [q]; rfl)
      rw [q] at HS ⊢
      obtain ⟨aa, ac, rfl, _, _⟩ := id h1
      obtain ⟨ba, bc, rfl, _, _⟩ := id h2
      obtain ⟨ca, cc, rfl, _, _⟩ := id h3
      exact (raw1 (mk x.text) aa ba ca _ _ _ ac bc cc (stray x) (mayBe x) w HS HM).mono f
    · have HM : Hid (∀ W, Below w.heap.size w W → Calls Tryz.prog 228 #[a] W fun e w' => e = .returned (.bool (mayBe x)) ∧ Below W.heap.size W w') := hid_of fun W hW => (list_call (h1.below hW) (by omega) hf.ls).mono fun e w' ⟨p1, p2⟩ => ⟨by rw [p1]; unfold mayBe; rw [if_neg (by omega), if_pos q], by rw [p2]; exact Below.refl _ _⟩
      have f := fin (.iface 107 a) (by omega) (by rw [q]; rfl)
      rw [q] at HS ⊢
      obtain ⟨aa, ac, rfl, _, _⟩ := id h1
      obtain ⟨ba, bc, rfl, _, _⟩ := id h2
      obtain ⟨ca, cc, rfl, _, _⟩ := id h3
      exact (raw2 (mk x.text) aa ba ca _ _ _ ac bc cc (stray x) (mayBe x) w HS HM).mono f
    · have HM : Hid (∀ W, Below w.heap.size w W → Calls Tryz.prog 231 #[b] W fun e w' => e = .returned (.bool (mayBe x)) ∧ Below W.heap.size W w') := hid_of fun W hW => (hash_call (h2.below hW) hff hf.fs).mono fun e w' ⟨p1, p2⟩ => ⟨by rw [p1]; unfold mayBe; rw [if_neg (by omega), if_neg (by omega), if_pos q], p2⟩
      have f := fin (.iface 108 b) (by omega) (by rw [q]; rfl)
      rw [q] at HS ⊢
      obtain ⟨aa, ac, rfl, _, _⟩ := id h1
      obtain ⟨ba, bc, rfl, _, _⟩ := id h2
      obtain ⟨ca, cc, rfl, _, _⟩ := id h3
      exact (raw3 (mk x.text) aa ba ca _ _ _ ac bc cc (stray x) (mayBe x) w HS HM).mono f
    · have HM : Hid (∀ W, Below w.heap.size w W → Calls Tryz.prog 234 #[a] W fun e w' => e = .returned (.bool (mayBe x)) ∧ Below W.heap.size W w') := hid_of fun W hW => (set_call (h1.below hW) (by omega) hf.ls).mono fun e w' ⟨p1, p2⟩ => ⟨by rw [p1]; unfold mayBe; rw [if_neg (by omega), if_neg (by omega), if_neg (by omega), if_pos q], p2⟩
      have f := fin (.iface 109 a) (by omega) (by rw [q]; rfl)
      rw [q] at HS ⊢
      obtain ⟨aa, ac, rfl, _, _⟩ := id h1
      obtain ⟨ba, bc, rfl, _, _⟩ := id h2
      obtain ⟨ca, cc, rfl, _, _⟩ := id h3
      exact (raw4 (mk x.text) aa ba ca _ _ _ ac bc cc (stray x) (mayBe x) w HS HM).mono f
    · have HM : Hid (∀ W, Below w.heap.size w W → Calls Tryz.prog 238 #[c] W fun e w' => e = .returned (.bool (mayBe x)) ∧ Below W.heap.size W w') := hid_of fun W hW => (rank_call (h3.below hW) hr hf.rs).mono fun e w' ⟨p1, p2⟩ => ⟨by rw [p1]; unfold mayBe; rw [if_neg (by omega), if_neg (by omega), if_neg (by omega), if_neg (by omega)], p2⟩
      have f := fin (.iface 110 c) (by omega) (by rw [q]; rfl)
      rw [q] at HS ⊢
      obtain ⟨aa, ac, rfl, _, _⟩ := id h1
      obtain ⟨ba, bc, rfl, _, _⟩ := id h2
      obtain ⟨ca, cc, rfl, _, _⟩ := id h3
      exact (raw5 (mk x.text) aa ba ca _ _ _ ac bc cc (stray x) (mayBe x) w HS HM).mono f
set_option maxHeartbeats 2000000 in
set_option maxRecDepth 100000 in
theorem check_call {w : World} {v : Value} {x : Vl} (h : VA w v x) (hf : Wel x) :
    Calls Tryz.prog 11 #[v] w fun e w' => e = .returned (.int .i64 (chk x)) ∧ Below w.heap.size w w' := by
  obtain ⟨a, b, c, rfl, h1, h2, h3⟩ := h
  have HC := hid_of fun (W : World) (hW : Below w.heap.size w W) => checked_call (h1.below hW) (h2.below hW) (h3.below hW) hf
  obtain ⟨aa, ac, rfl, _, _⟩ := id h1
  obtain ⟨ba, bc, rfl, _, _⟩ := id h2
  obtain ⟨ca, cc, rfl, _, _⟩ := id h3
  generalize ckC x (.slice aa x.list.length ac) (.slice ba (List.length x.fields) bc) (.slice ca (List.length x.ranked) cc) = C at *
  generalize chk x = E at *
  generalize x.kind = k at *
  generalize mk x.text = X at *
  generalize x.list.length = an at *
  generalize List.length x.fields = bn at *
  generalize List.length x.ranked = cn at *
  obtain ⟨V, hV⟩ : ∃ V, V = w.alloc (.cells #[.int .i64 k, .string X, .slice aa an ac, .slice ba bn bc, .slice ca cn cc] 30) := ⟨_, rfl⟩
  have bV : Below w.heap.size w V := by rw [hV]; exact FRow.bnew w _
  have HV := hid_of hV
  have HB := hid_of bV
  clear bV hV h1 h2 h3
  go_enter Tryz.func11, Tryz.ntmps11
  go_wp2_with fail
  rw [← HV.out]
  refine (HC.out V HB.out).mono ?_
  rintro e w1 ⟨rfl, b1⟩
  have B1 := hid_of (FRow.bel HB.out b1 (Nat.le_refl _))
  clear b1 HC
  go_wp2_with fail
  go_ret
  exact ⟨rfl, B1.out⟩
end Go.Proofs.YtminfpkigenahaaGreatDoor.Check
end
section
namespace Go.Proofs.YtminfpkigenahaaGreatDoor.ReadMath
open Go.Proofs.YtminfpkigenahaaGreatDoor.SetMath
open Go.Proofs.YtminfpkigenahaaGreatDoor.BytesMath
open Go.Proofs.YtminfpkigenahaaGreatDoor.FixMath
open Go.Proofs.YtminfpkigenahaaGreatDoor.ValueMath
set_option linter.unusedVariables false
abbrev RS := Bs × Bool
def tkS (n : Nat) (s : RS) : Bs × RS := if s.2 = true ∨ s.1.length < n then ([], s.1, true) else (s.1.take n, s.1.drop n, false)
def unN (t : Bs) : Nat := if 1 ≤ t.length ∧ t.length ≤ 8 then leN t else 0
def nbS (w : Nat) (s : RS) : Nat × RS := (unN (tkS w s).1, (tkS w s).2)
def txS (s : RS) : Bs × RS := tkS (nbS 4 s).1 (nbS 4 s).2
def fdS (s : RS) : (Bs × Bs) × RS := (((txS s).1, (txS (txS s).2).1), (txS (txS s).2).2)
def scS (s : RS) : (Bs × Int) × RS := (((txS (nbS 8 s).2).1, IntKind.i64.wrap (nbS 8 s).1), (txS (nbS 8 s).2).2)
theorem tk_bad (n : Nat) (r : Bs) : tkS n (r, true) = ([], r, true) := by unfold tkS; rw [if_pos (Or.inl rfl)]
theorem tk_no {n : Nat} {r : Bs} (f : Bool) (h : r.length < n) : tkS n (r, f) = ([], r, true) := by unfold tkS; rw [if_pos (Or.inr h)]
theorem tk_ok {n : Nat} {r : Bs} (h : n ≤ r.length) : tkS n (r, false) = (r.take n, r.drop n, false) := by
  unfold tkS
  rw [if_neg (by rintro (h1 | h1); cases h1; exact absurd h (by simpa using h1))]
theorem nb_bad (w : Nat) (r : Bs) : nbS w (r, true) = (0, r, true) := by unfold nbS; rw [tk_bad]; rfl
theorem nb_some {w : Nat} {r r' : Bs} {n : Nat} (h1 : 1 ≤ w) (h8 : w ≤ 8) (h : rdN w r = some (n, r')) : nbS w (r, false) = (n, r', false) := by
  unfold rdN at h
  split at h
  · cases h
  · injection h with h
    injection h with e1 e2
    unfold nbS
    rw [tk_ok (by omega)]
    simp only [unN]
    rw [if_pos (by rw [List.length_take]; omega), e1, e2]
theorem nb_none {w : Nat} {r : Bs} (f : Bool) (h : rdN w r = none) : nbS w (r, f) = (0, r, true) := by
  unfold rdN at h
  split at h
  · unfold nbS
    rw [tk_no f (by assumption)]
    rfl
  · cases h
theorem tx_bad (r : Bs) : txS (r, true) = ([], r, true) := by unfold txS; rw [nb_bad]; exact tk_bad 0 r
theorem tx_some {r r' t : Bs} (h : rdT r = some (t, r')) : txS (r, false) = (t, r', false) := by
  unfold rdT at h
  obtain ⟨⟨n, r1⟩, h1, h2⟩ := Option.bind_eq_some_iff.1 h
  unfold txS
  rw [nb_some (by decide) (by decide) h1]
  simp only at h2 ⊢
  unfold rdTk at h2
  split at h2
  · cases h2
  · injection h2 with h2
    injection h2 with e1 e2
    rw [tk_ok (by omega), e1, e2]
theorem tx_none {r : Bs} (h : rdT r = none) : ∃ r', txS (r, false) = ([], r', true) := by
  unfold rdT at h
  unfold txS
  cases e : rdN 4 r with
  | none => rw [nb_none _ e]; exact ⟨r, tk_bad 0 r⟩
  | some q =>
    obtain ⟨n, r1⟩ := q
    rw [e] at h
    rw [nb_some (by decide) (by decide) e]
    change rdTk n r1 = none at h
    unfold rdTk at h
    split at h
    · exact ⟨r1, tk_no false (by assumption)⟩
    · cases h
theorem fd_some {r r' : Bs} {p : Bs × Bs} (h : rdF r = some (p, r')) : fdS (r, false) = (p, r', false) := by
  unfold rdF at h
  obtain ⟨⟨a, r1⟩, h1, h2⟩ := Option.bind_eq_some_iff.1 h
  obtain ⟨⟨b, r2⟩, h3, h4⟩ := Option.bind_eq_some_iff.1 h2
  injection h4 with h4
  injection h4 with h5 h6
  simp only at h3 h5 h6
  unfold fdS
  rw [tx_some h1]
  simp only
  rw [tx_some h3, ← h5, ← h6]
theorem fd_none {r : Bs} (h : rdF r = none) : ∃ p r', fdS (r, false) = (p, r', true) := by
  unfold rdF at h
  unfold fdS
  cases e : rdT r with
  | none =>
    obtain ⟨r1, h1⟩ := tx_none e
    rw [h1]
    simp only
    rw [tx_bad]
    exact ⟨_, _, rfl⟩
  | some q =>
    obtain ⟨a, r1⟩ := q
    rw [e] at h
    rw [tx_some e]
    simp only
    cases e2 : rdT r1 with
    | none =>
      obtain ⟨r2, h2⟩ := tx_none e2
      rw [h2]
      exact ⟨_, _, rfl⟩
    | some q2 =>
      change ((rdT r1).bind _) = none at h
      rw [e2] at h
      cases h
theorem sc_some {r r' : Bs} {p : Bs × Int} (h : rdE r = some (p, r')) : scS (r, false) = (p, r', false) := by
  unfold rdE at h
  obtain ⟨⟨a, r1⟩, h1, h2⟩ := Option.bind_eq_some_iff.1 h
  obtain ⟨⟨b, r2⟩, h3, h4⟩ := Option.bind_eq_some_iff.1 h2
  injection h4 with h4
  injection h4 with h5 h6
  simp only at h3 h5 h6
  unfold scS
  rw [nb_some (by decide) (by decide) h1]
  simp only
  rw [tx_some h3, ← h5, ← h6]
theorem sc_none {r : Bs} (h : rdE r = none) : ∃ p r', scS (r, false) = (p, r', true) := by
  unfold rdE at h
  unfold scS
  cases e : rdN 8 r with
  | none =>
    rw [nb_none _ e]
    simp only
    rw [tx_bad]
    exact ⟨_, _, rfl⟩
  | some q =>
    obtain ⟨a, r1⟩ := q
    rw [e] at h
    rw [nb_some (by decide) (by decide) e]
    simp only
    cases e2 : rdT r1 with
    | none =>
      obtain ⟨r2, h2⟩ := tx_none e2
      rw [h2]
      exact ⟨_, _, rfl⟩
    | some q2 =>
      change ((rdT r1).bind _) = none at h
      rw [e2] at h
      cases h
/- what is left is an end of what there was -/
theorem tk_le (n : Nat) (s : RS) : (tkS n s).2.1.length ≤ s.1.length ∧ (tkS n s).1.length ≤ s.1.length := by
  unfold tkS
  split
  · simp
  · simp; omega
theorem nb_le (w : Nat) (s : RS) : (nbS w s).2.1.length ≤ s.1.length := (tk_le w s).1
theorem tx_le (s : RS) : (txS s).2.1.length ≤ s.1.length ∧ (txS s).1.length ≤ s.1.length := by
  have h1 := tk_le (nbS 4 s).1 (nbS 4 s).2
  have h2 := nb_le 4 s
  unfold txS
  omega
theorem nb_lt (w : Nat) (s : RS) (hw : w ≤ 8) : (nbS w s).1 < 256 ^ w := by
  unfold nbS unN
  have h1 : (tkS w s).1.length ≤ w := by
    unfold tkS
    split
    · simp
    · simp; omega
  have h2 := leN_lt (tkS w s).1
  have h3 : 256 ^ (tkS w s).1.length ≤ 256 ^ w := Nat.pow_le_pow_right (by omega) h1
  have h4 : 0 < 256 ^ w := Nat.pow_pos (by omega)
  simp only
  split
  · omega
  · exact h4
end Go.Proofs.YtminfpkigenahaaGreatDoor.ReadMath
end
section
namespace Go.Proofs.YtminfpkigenahaaGreatDoor.Unfix
open Go.RowKit
open Go.Proofs.YtminfpkigenahaaGreatDoor.BytesMath

theorem ret_ui {a b c d : Int} (h1 : a = b) (h2 : c = d) : Ending.returned (.tuple #[.int .u64 a, .int .i64 c]) = .returned (.tuple #[.int .u64 b, .int .i64 d]) := by rw [h1, h2]
theorem val_u {a b : Int} (h : a = b) : Value.int .u64 a = .int .u64 b := by rw [h]
theorem val_i {a b : Int} (h : a = b) : Value.int .i64 a = .int .i64 b := by rw [h]

set_option maxHeartbeats 400000 in
theorem unfix_ok (s : ByteArray) (w : World) (h1 : 1 ≤ s.size) (h8 : s.size ≤ 8) :
    Calls Tryz.prog 152 #[.string s] w fun e w' => e = .returned (.tuple #[.int .u64 (leN s.data.toList), .int .i64 0]) ∧ w' = w := by
  go_enter Tryz.func152, Tryz.ntmps152
  go_wp2
  go_loop [4, 16] (fun n i => ∃ k : Nat, k ≤ s.size ∧ i = .int .i64 k ∧ n = .int .u64 (leN (s.data.toList.take k))) (fun _ i => s.size - (intOf i).toNat)
  case atStart => exact ⟨0, Nat.zero_le _, rfl, rfl⟩
  case round =>
    obtain ⟨k, hk, rfl, rfl⟩ := hrel
    by_cases hlt : k < s.size
    · go_wp2
      exact ⟨⟨k + 1, hlt, val_i (by omega), val_u (unfix_step s k hlt h8)⟩, by simp [intOf]; omega⟩
    · go_wp2
      go_ret2
      exact ⟨ret_ui (by rw [take_all s k (by omega)]) rfl, rfl⟩
set_option maxHeartbeats 400000 in
theorem unfix_no (s : ByteArray) (w : World) (h : s.size < 1 ∨ 8 < s.size) :
    Calls Tryz.prog 152 #[.string s] w fun e w' => e = .returned (.tuple #[.int .u64 0, .int .i64 12]) ∧ w' = w := by
  rcases h with h | h
  all_goals
    go_enter Tryz.func152, Tryz.ntmps152
    go_wp2
    go_ret2
    exact ⟨rfl, rfl⟩
theorem unfB_no {s : ByteArray} (h : unfB s = false) : s.size < 1 ∨ 8 < s.size := by simp [unfB] at h; omega
theorem unfB_ok {s : ByteArray} (h : unfB s = true) : 1 ≤ s.size ∧ s.size ≤ 8 := by simpa [unfB] using h
theorem unfix_any (s : ByteArray) (w : World) :
    Calls Tryz.prog 152 #[.string s] w fun e w' => e = .returned (.tuple #[.int .u64 (unfV s), .int .i64 (unfE s)]) ∧ w' = w := by
  unfold unfV unfE
  cases h : unfB s
  · exact unfix_no s w (unfB_no h)
  · exact unfix_ok s w (unfB_ok h).1 (unfB_ok h).2
end Go.Proofs.YtminfpkigenahaaGreatDoor.Unfix
end
