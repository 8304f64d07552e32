/- checked, Check. -/
import Derived.Test.YtdcnkdkhanmklabStray
namespace Go.Proofs.Ytdcnkdkhanmklab.Check
open Go.RowKit Go.Maps
open Go.Proofs.Ytdcnkdkhanmklab.SetMath
open Go.Proofs.Ytdcnkdkhanmklab.ValueMath
open Go.Proofs.Ytdcnkdkhanmklab.Base
open Go.Proofs.Ytdcnkdkhanmklab.Vals
open Go.Proofs.Ytdcnkdkhanmklab.May
open Go.Proofs.Ytdcnkdkhanmklab.MayR
open Go.Proofs.Ytdcnkdkhanmklab.Check0
set_option linter.unusedVariables false
set_option linter.unusedSimpArgs false

set_option maxHeartbeats 2000000 in
set_option maxRecDepth 100000 in
theorem raw1 (X : ByteArray) (aa ba ca : Option Addr) (an bn cn ac bc cc : Nat) (st mb : Bool) (w : World)
    (HS : Hid (∀ W, Below w.heap.size w W → Calls Try.prog 24 #[.agg #[.int .i64 1, .string X, .slice aa an ac, .slice ba bn bc, .slice ca cn cc]] W fun e w' => e = .returned (.bool st) ∧ Below W.heap.size W w'))
    (HM : Hid (∀ W, Below w.heap.size w W → Calls Try.prog 56 #[.string X] W fun e w' => e = .returned (.bool mb) ∧ Below W.heap.size W w')) :
    Calls Try.prog 17 #[.agg #[.int .i64 1, .string X, .slice aa an ac, .slice ba bn bc, .slice ca cn cc]] w fun e w' => e = .returned (.tuple #[if (st || !mb) then .nilIface else .iface 74 (.string X), .int .i64 (if (st || !mb) then 131 else 0)]) ∧ Below w.heap.size w w' := by
  have HC := hid_of fun W => content_call 1 X aa ba ca an bn cn ac bc cc W
  rw [show cv 1 (.string X) (.slice aa an ac) (.slice ba bn bc) (.slice ca cn cc) = .iface 74 (.string X) from rfl] at HC
  obtain ⟨V, hV⟩ : ∃ V, V = w.alloc (.cells #[.int .i64 1, .string X, .slice aa an ac, .slice ba bn bc, .slice ca cn cc] 26) := ⟨_, rfl⟩
  have bV : Below w.heap.size w V := by rw [hV]; exact FRow.bnew w _
  have v0 : V.heap[w.heap.size]? = some (.cells #[.int .i64 1, .string X, .slice aa an ac, .slice ba bn bc, .slice ca cn cc] 26 (0, 0)) := by rw [hV]; exact heap_alloc_new w _
  have HV := hid_of hV
  have HB := hid_of bV
  have HX := hid_of fun (W : World) (hW : Below V.heap.size V W) => box5 ((hW.block _ (lt_of v0)).trans v0)
  clear v0 bV hV
  go_enter Try.func17, Try.ntmps17
  go_wp2_with fail
  rw [← HV.out]
  refine (HC.out V).mono ?_
  rintro e w1 ⟨rfl, b1⟩
  obtain ⟨⟨c0, c1, c2, c3, c4⟩, _⟩ := HX.out w1 b1
  have B1 := hid_of (FRow.bel HB.out b1 (Nat.le_refl _))
  clear b1 HC HX
  go_wp2_with fail
  refine (HS.out w1 B1.out).mono ?_
  rintro e w2 ⟨rfl, b2⟩
  have B2 := hid_of (FRow.bel B1.out b2 (Nat.le_refl _))
  clear b2 HS c0 c1 c2 c3 c4
  cases st
  · go_wp2_with fail
    refine (HM.out w2 B2.out).mono ?_
    rintro e w3 ⟨rfl, b3⟩
    have B3 := hid_of (FRow.bel B2.out b3 (Nat.le_refl _))
    clear b3 HM
    cases mb
    · go_wp2_with fail
      go_ret2
      exact ⟨rfl, B3.out⟩
    · go_wp2_with fail
      go_ret2
      exact ⟨rfl, B3.out⟩
  · go_wp2_with fail
    go_ret2
    exact ⟨rfl, B2.out⟩

set_option maxHeartbeats 2000000 in
set_option maxRecDepth 100000 in
theorem raw2 (X : ByteArray) (aa ba ca : Option Addr) (an bn cn ac bc cc : Nat) (st mb : Bool) (w : World)
    (HS : Hid (∀ W, Below w.heap.size w W → Calls Try.prog 24 #[.agg #[.int .i64 2, .string X, .slice aa an ac, .slice ba bn bc, .slice ca cn cc]] W fun e w' => e = .returned (.bool st) ∧ Below W.heap.size W w'))
    (HM : Hid (∀ W, Below w.heap.size w W → Calls Try.prog 62 #[.slice aa an ac] W fun e w' => e = .returned (.bool mb) ∧ Below W.heap.size W w')) :
    Calls Try.prog 17 #[.agg #[.int .i64 2, .string X, .slice aa an ac, .slice ba bn bc, .slice ca cn cc]] w fun e w' => e = .returned (.tuple #[if (st || !mb) then .nilIface else .iface 75 (.slice aa an ac), .int .i64 (if (st || !mb) then 131 else 0)]) ∧ Below w.heap.size w w' := by
  have HC := hid_of fun W => content_call 2 X aa ba ca an bn cn ac bc cc W
  rw [show cv 2 (.string X) (.slice aa an ac) (.slice ba bn bc) (.slice ca cn cc) = .iface 75 (.slice aa an ac) from rfl] at HC
  obtain ⟨V, hV⟩ : ∃ V, V = w.alloc (.cells #[.int .i64 2, .string X, .slice aa an ac, .slice ba bn bc, .slice ca cn cc] 26) := ⟨_, rfl⟩
  have bV : Below w.heap.size w V := by rw [hV]; exact FRow.bnew w _
  have v0 : V.heap[w.heap.size]? = some (.cells #[.int .i64 2, .string X, .slice aa an ac, .slice ba bn bc, .slice ca cn cc] 26 (0, 0)) := by rw [hV]; exact heap_alloc_new w _
  have HV := hid_of hV
  have HB := hid_of bV
  have HX := hid_of fun (W : World) (hW : Below V.heap.size V W) => box5 ((hW.block _ (lt_of v0)).trans v0)
  clear v0 bV hV
  go_enter Try.func17, Try.ntmps17
  go_wp2_with fail
  rw [← HV.out]
  refine (HC.out V).mono ?_
  rintro e w1 ⟨rfl, b1⟩
  obtain ⟨⟨c0, c1, c2, c3, c4⟩, _⟩ := HX.out w1 b1
  have B1 := hid_of (FRow.bel HB.out b1 (Nat.le_refl _))
  clear b1 HC HX
  go_wp2_with fail
  refine (HS.out w1 B1.out).mono ?_
  rintro e w2 ⟨rfl, b2⟩
  have B2 := hid_of (FRow.bel B1.out b2 (Nat.le_refl _))
  clear b2 HS c0 c1 c2 c3 c4
  cases st
  · go_wp2_with fail
    refine (HM.out w2 B2.out).mono ?_
    rintro e w3 ⟨rfl, b3⟩
    have B3 := hid_of (FRow.bel B2.out b3 (Nat.le_refl _))
    clear b3 HM
    cases mb
    · go_wp2_with fail
      go_ret2
      exact ⟨rfl, B3.out⟩
    · go_wp2_with fail
      go_ret2
      exact ⟨rfl, B3.out⟩
  · go_wp2_with fail
    go_ret2
    exact ⟨rfl, B2.out⟩

set_option maxHeartbeats 2000000 in
set_option maxRecDepth 100000 in
theorem raw3 (X : ByteArray) (aa ba ca : Option Addr) (an bn cn ac bc cc : Nat) (st mb : Bool) (w : World)
    (HS : Hid (∀ W, Below w.heap.size w W → Calls Try.prog 24 #[.agg #[.int .i64 3, .string X, .slice aa an ac, .slice ba bn bc, .slice ca cn cc]] W fun e w' => e = .returned (.bool st) ∧ Below W.heap.size W w'))
    (HM : Hid (∀ W, Below w.heap.size w W → Calls Try.prog 65 #[.slice ba bn bc] W fun e w' => e = .returned (.bool mb) ∧ Below W.heap.size W w')) :
    Calls Try.prog 17 #[.agg #[.int .i64 3, .string X, .slice aa an ac, .slice ba bn bc, .slice ca cn cc]] w fun e w' => e = .returned (.tuple #[if (st || !mb) then .nilIface else .iface 76 (.slice ba bn bc), .int .i64 (if (st || !mb) then 131 else 0)]) ∧ Below w.heap.size w w' := by
  have HC := hid_of fun W => content_call 3 X aa ba ca an bn cn ac bc cc W
  rw [show cv 3 (.string X) (.slice aa an ac) (.slice ba bn bc) (.slice ca cn cc) = .iface 76 (.slice ba bn bc) from rfl] at HC
  obtain ⟨V, hV⟩ : ∃ V, V = w.alloc (.cells #[.int .i64 3, .string X, .slice aa an ac, .slice ba bn bc, .slice ca cn cc] 26) := ⟨_, rfl⟩
  have bV : Below w.heap.size w V := by rw [hV]; exact FRow.bnew w _
  have v0 : V.heap[w.heap.size]? = some (.cells #[.int .i64 3, .string X, .slice aa an ac, .slice ba bn bc, .slice ca cn cc] 26 (0, 0)) := by rw [hV]; exact heap_alloc_new w _
  have HV := hid_of hV
  have HB := hid_of bV
  have HX := hid_of fun (W : World) (hW : Below V.heap.size V W) => box5 ((hW.block _ (lt_of v0)).trans v0)
  clear v0 bV hV
  go_enter Try.func17, Try.ntmps17
  go_wp2_with fail
  rw [← HV.out]
  refine (HC.out V).mono ?_
  rintro e w1 ⟨rfl, b1⟩
  obtain ⟨⟨c0, c1, c2, c3, c4⟩, _⟩ := HX.out w1 b1
  have B1 := hid_of (FRow.bel HB.out b1 (Nat.le_refl _))
  clear b1 HC HX
  go_wp2_with fail
  refine (HS.out w1 B1.out).mono ?_
  rintro e w2 ⟨rfl, b2⟩
  have B2 := hid_of (FRow.bel B1.out b2 (Nat.le_refl _))
  clear b2 HS c0 c1 c2 c3 c4
  cases st
  · go_wp2_with fail
    refine (HM.out w2 B2.out).mono ?_
    rintro e w3 ⟨rfl, b3⟩
    have B3 := hid_of (FRow.bel B2.out b3 (Nat.le_refl _))
    clear b3 HM
    cases mb
    · go_wp2_with fail
      go_ret2
      exact ⟨rfl, B3.out⟩
    · go_wp2_with fail
      go_ret2
      exact ⟨rfl, B3.out⟩
  · go_wp2_with fail
    go_ret2
    exact ⟨rfl, B2.out⟩

set_option maxHeartbeats 2000000 in
set_option maxRecDepth 100000 in
theorem raw4 (X : ByteArray) (aa ba ca : Option Addr) (an bn cn ac bc cc : Nat) (st mb : Bool) (w : World)
    (HS : Hid (∀ W, Below w.heap.size w W → Calls Try.prog 24 #[.agg #[.int .i64 4, .string X, .slice aa an ac, .slice ba bn bc, .slice ca cn cc]] W fun e w' => e = .returned (.bool st) ∧ Below W.heap.size W w'))
    (HM : Hid (∀ W, Below w.heap.size w W → Calls Try.prog 68 #[.slice aa an ac] W fun e w' => e = .returned (.bool mb) ∧ Below W.heap.size W w')) :
    Calls Try.prog 17 #[.agg #[.int .i64 4, .string X, .slice aa an ac, .slice ba bn bc, .slice ca cn cc]] w fun e w' => e = .returned (.tuple #[if (st || !mb) then .nilIface else .iface 77 (.slice aa an ac), .int .i64 (if (st || !mb) then 131 else 0)]) ∧ Below w.heap.size w w' := by
  have HC := hid_of fun W => content_call 4 X aa ba ca an bn cn ac bc cc W
  rw [show cv 4 (.string X) (.slice aa an ac) (.slice ba bn bc) (.slice ca cn cc) = .iface 77 (.slice aa an ac) from rfl] at HC
  obtain ⟨V, hV⟩ : ∃ V, V = w.alloc (.cells #[.int .i64 4, .string X, .slice aa an ac, .slice ba bn bc, .slice ca cn cc] 26) := ⟨_, rfl⟩
  have bV : Below w.heap.size w V := by rw [hV]; exact FRow.bnew w _
  have v0 : V.heap[w.heap.size]? = some (.cells #[.int .i64 4, .string X, .slice aa an ac, .slice ba bn bc, .slice ca cn cc] 26 (0, 0)) := by rw [hV]; exact heap_alloc_new w _
  have HV := hid_of hV
  have HB := hid_of bV
  have HX := hid_of fun (W : World) (hW : Below V.heap.size V W) => box5 ((hW.block _ (lt_of v0)).trans v0)
  clear v0 bV hV
  go_enter Try.func17, Try.ntmps17
  go_wp2_with fail
  rw [← HV.out]
  refine (HC.out V).mono ?_
  rintro e w1 ⟨rfl, b1⟩
  obtain ⟨⟨c0, c1, c2, c3, c4⟩, _⟩ := HX.out w1 b1
  have B1 := hid_of (FRow.bel HB.out b1 (Nat.le_refl _))
  clear b1 HC HX
  go_wp2_with fail
  refine (HS.out w1 B1.out).mono ?_
  rintro e w2 ⟨rfl, b2⟩
  have B2 := hid_of (FRow.bel B1.out b2 (Nat.le_refl _))
  clear b2 HS c0 c1 c2 c3 c4
  cases st
  · go_wp2_with fail
    refine (HM.out w2 B2.out).mono ?_
    rintro e w3 ⟨rfl, b3⟩
    have B3 := hid_of (FRow.bel B2.out b3 (Nat.le_refl _))
    clear b3 HM
    cases mb
    · go_wp2_with fail
      go_ret2
      exact ⟨rfl, B3.out⟩
    · go_wp2_with fail
      go_ret2
      exact ⟨rfl, B3.out⟩
  · go_wp2_with fail
    go_ret2
    exact ⟨rfl, B2.out⟩

set_option maxHeartbeats 2000000 in
set_option maxRecDepth 100000 in
theorem raw5 (X : ByteArray) (aa ba ca : Option Addr) (an bn cn ac bc cc : Nat) (st mb : Bool) (w : World)
    (HS : Hid (∀ W, Below w.heap.size w W → Calls Try.prog 24 #[.agg #[.int .i64 5, .string X, .slice aa an ac, .slice ba bn bc, .slice ca cn cc]] W fun e w' => e = .returned (.bool st) ∧ Below W.heap.size W w'))
    (HM : Hid (∀ W, Below w.heap.size w W → Calls Try.prog 72 #[.slice ca cn cc] W fun e w' => e = .returned (.bool mb) ∧ Below W.heap.size W w')) :
    Calls Try.prog 17 #[.agg #[.int .i64 5, .string X, .slice aa an ac, .slice ba bn bc, .slice ca cn cc]] w fun e w' => e = .returned (.tuple #[if (st || !mb) then .nilIface else .iface 78 (.slice ca cn cc), .int .i64 (if (st || !mb) then 131 else 0)]) ∧ Below w.heap.size w w' := by
  have HC := hid_of fun W => content_call 5 X aa ba ca an bn cn ac bc cc W
  rw [show cv 5 (.string X) (.slice aa an ac) (.slice ba bn bc) (.slice ca cn cc) = .iface 78 (.slice ca cn cc) from rfl] at HC
  obtain ⟨V, hV⟩ : ∃ V, V = w.alloc (.cells #[.int .i64 5, .string X, .slice aa an ac, .slice ba bn bc, .slice ca cn cc] 26) := ⟨_, rfl⟩
  have bV : Below w.heap.size w V := by rw [hV]; exact FRow.bnew w _
  have v0 : V.heap[w.heap.size]? = some (.cells #[.int .i64 5, .string X, .slice aa an ac, .slice ba bn bc, .slice ca cn cc] 26 (0, 0)) := by rw [hV]; exact heap_alloc_new w _
  have HV := hid_of hV
  have HB := hid_of bV
  have HX := hid_of fun (W : World) (hW : Below V.heap.size V W) => box5 ((hW.block _ (lt_of v0)).trans v0)
  clear v0 bV hV
  go_enter Try.func17, Try.ntmps17
  go_wp2_with fail
  rw [← HV.out]
  refine (HC.out V).mono ?_
  rintro e w1 ⟨rfl, b1⟩
  obtain ⟨⟨c0, c1, c2, c3, c4⟩, _⟩ := HX.out w1 b1
  have B1 := hid_of (FRow.bel HB.out b1 (Nat.le_refl _))
  clear b1 HC HX
  go_wp2_with fail
  refine (HS.out w1 B1.out).mono ?_
  rintro e w2 ⟨rfl, b2⟩
  have B2 := hid_of (FRow.bel B1.out b2 (Nat.le_refl _))
  clear b2 HS c0 c1 c2 c3 c4
  cases st
  · go_wp2_with fail
    refine (HM.out w2 B2.out).mono ?_
    rintro e w3 ⟨rfl, b3⟩
    have B3 := hid_of (FRow.bel B2.out b3 (Nat.le_refl _))
    clear b3 HM
    cases mb
    · go_wp2_with fail
      go_ret2
      exact ⟨rfl, B3.out⟩
    · go_wp2_with fail
      go_ret2
      exact ⟨rfl, B3.out⟩
  · go_wp2_with fail
    go_ret2
    exact ⟨rfl, B2.out⟩

set_option maxHeartbeats 2000000 in
set_option maxRecDepth 100000 in
theorem raw0 (k : Int) (hk : k < 1 ∨ 5 < k) (X : ByteArray) (aa ba ca : Option Addr) (an bn cn ac bc cc : Nat) (w : World) :
    Calls Try.prog 17 #[.agg #[.int .i64 k, .string X, .slice aa an ac, .slice ba bn bc, .slice ca cn cc]] w fun e w' => e = .returned (.tuple #[.nilIface, .int .i64 130]) ∧ Below w.heap.size w w' := by
  have HC := hid_of fun W => content_call k X aa ba ca an bn cn ac bc cc W
  rw [show cv k (.string X) (.slice aa an ac) (.slice ba bn bc) (.slice ca cn cc) = .nilIface from by unfold cv; rw [if_neg (by omega), if_neg (by omega), if_neg (by omega), if_neg (by omega), if_neg (by omega)]] at HC
  obtain ⟨V, hV⟩ : ∃ V, V = w.alloc (.cells #[.int .i64 k, .string X, .slice aa an ac, .slice ba bn bc, .slice ca cn cc] 26) := ⟨_, rfl⟩
  have bV : Below w.heap.size w V := by rw [hV]; exact FRow.bnew w _
  have HV := hid_of hV
  have HB := hid_of bV
  clear bV hV
  go_enter Try.func17, Try.ntmps17
  go_wp2_with fail
  rw [← HV.out]
  refine (HC.out V).mono ?_
  rintro e w1 ⟨rfl, b1⟩
  have B1 := hid_of (FRow.bel HB.out b1 (Nat.le_refl _))
  clear b1 HC
  go_wp2_with fail
  go_ret2
  exact ⟨rfl, B1.out⟩
/- what checked answers -/
def ckC (x : Vl) (a b c : Value) : Value := if chk x = 0 then cv x.kind (.string (mk x.text)) a b c else .nilIface
theorem chk_k {x : Vl} (h : 1 ≤ x.kind ∧ x.kind ≤ 5) : chk x = if (stray x || !mayBe x) then 131 else 0 := by
  unfold chk
  rw [if_neg (by omega)]
  cases stray x <;> cases mayBe x <;> simp
theorem checked_call {w : World} {a b c : Value} {x : Vl} (h1 : SL TT w a x.list) (h2 : FRow.FS w b x.fields) (h3 : ERow.FS w c x.ranked) (hf : Wel x) :
    Calls Try.prog 17 #[.agg #[.int .i64 x.kind, .string (mk x.text), a, b, c]] w fun e w' => e = .returned (.tuple #[ckC x a b c, .int .i64 (chk x)]) ∧ Below w.heap.size w w' := by
  by_cases hk : x.kind < 1 ∨ 5 < x.kind
  · obtain ⟨aa, ac, rfl, _, _⟩ := id h1
    obtain ⟨ba, bc, rfl, _, _⟩ := id h2
    obtain ⟨ca, cc, rfl, _, _⟩ := id h3
    refine (raw0 x.kind hk (mk x.text) aa ba ca _ _ _ ac bc cc w).mono fun e w' ⟨q1, q2⟩ => ⟨?_, q2⟩
    have e1 : chk x = 130 := by unfold chk; rw [if_pos hk]
    rw [q1]
    unfold ckC
    rw [e1]
    rfl
  · have HS : Hid (∀ W, Below w.heap.size w W → Calls Try.prog 24 #[.agg #[.int .i64 x.kind, .string (mk x.text), a, b, c]] W fun e w' => e = .returned (.bool (stray x)) ∧ Below W.heap.size W w') := hid_of fun W hW => by
      obtain ⟨aa, ac, rfl, _, _⟩ := id h1
      obtain ⟨ba, bc, rfl, _, _⟩ := id h2
      obtain ⟨ca, cc, rfl, _, _⟩ := id h3
      rw [stray_eq]
      refine Stray.stray_raw x.kind (by omega) (mk x.text) aa ba ca _ _ _ ac bc cc _ _ _ _ ?_ ?_ ?_ ?_ ?_ ?_ ?_ W
      · rw [mk_list]; cases x.text <;> rfl
      · rw [nil_len]; simp
      · rw [nil_len]; simp
      · rw [nil_len]; simp
      · rw [nil_len]
      · rw [nil_len]
      · rw [nil_len]
    have hl := hf.l
    have hr := hf.r24
    have hff := hf.f
    have fin : ∀ (V : Value), (1 ≤ x.kind ∧ x.kind ≤ 5) → cv x.kind (.string (mk x.text)) a b c = V → ∀ (e : Ending) (w' : World), (e = .returned (.tuple #[if (stray x || !mayBe x) then .nilIface else V, .int .i64 (if (stray x || !mayBe x) then 131 else 0)]) ∧ Below w.heap.size w w') → (e = .returned (.tuple #[ckC x a b c, .int .i64 (chk x)]) ∧ Below w.heap.size w w') := fun V hkk hcv e w' ⟨q1, q2⟩ => by
      refine ⟨?_, q2⟩
      rw [q1]
      unfold ckC
      rw [hcv, chk_k hkk]
      cases (stray x || !mayBe x) <;> rfl
    rcases (show x.kind = 1 ∨ x.kind = 2 ∨ x.kind = 3 ∨ x.kind = 4 ∨ x.kind = 5 by omega) with q | q | q | q | q
    · have HM : Hid (∀ W, Below w.heap.size w W → Calls Try.prog 56 #[.string (mk x.text)] W fun e w' => e = .returned (.bool (mayBe x)) ∧ Below W.heap.size W w') := hid_of fun W hW => (text_call x.text W hf.t).mono fun e w' ⟨p1, p2⟩ => ⟨by rw [p1]; unfold mayBe; rw [if_pos q], by rw [p2]; exact Below.refl _ _⟩
      have f := fin (.iface 74 (.string (mk x.text))) (by omega) (by rw [q]; rfl)
      rw [q] at HS ⊢
      obtain ⟨aa, ac, rfl, _, _⟩ := id h1
      obtain ⟨ba, bc, rfl, _, _⟩ := id h2
      obtain ⟨ca, cc, rfl, _, _⟩ := id h3
      exact (raw1 (mk x.text) aa ba ca _ _ _ ac bc cc (stray x) (mayBe x) w HS HM).mono f
    · have HM : Hid (∀ W, Below w.heap.size w W → Calls Try.prog 62 #[a] W fun e w' => e = .returned (.bool (mayBe x)) ∧ Below W.heap.size W w') := hid_of fun W hW => (list_call (h1.below hW) (by omega) hf.ls).mono fun e w' ⟨p1, p2⟩ => ⟨by rw [p1]; unfold mayBe; rw [if_neg (by omega), if_pos q], by rw [p2]; exact Below.refl _ _⟩
      have f := fin (.iface 75 a) (by omega) (by rw [q]; rfl)
      rw [q] at HS ⊢
      obtain ⟨aa, ac, rfl, _, _⟩ := id h1
      obtain ⟨ba, bc, rfl, _, _⟩ := id h2
      obtain ⟨ca, cc, rfl, _, _⟩ := id h3
      exact (raw2 (mk x.text) aa ba ca _ _ _ ac bc cc (stray x) (mayBe x) w HS HM).mono f
    · have HM : Hid (∀ W, Below w.heap.size w W → Calls Try.prog 65 #[b] W fun e w' => e = .returned (.bool (mayBe x)) ∧ Below W.heap.size W w') := hid_of fun W hW => (hash_call (h2.below hW) hff hf.fs).mono fun e w' ⟨p1, p2⟩ => ⟨by rw [p1]; unfold mayBe; rw [if_neg (by omega), if_neg (by omega), if_pos q], p2⟩
      have f := fin (.iface 76 b) (by omega) (by rw [q]; rfl)
      rw [q] at HS ⊢
      obtain ⟨aa, ac, rfl, _, _⟩ := id h1
      obtain ⟨ba, bc, rfl, _, _⟩ := id h2
      obtain ⟨ca, cc, rfl, _, _⟩ := id h3
      exact (raw3 (mk x.text) aa ba ca _ _ _ ac bc cc (stray x) (mayBe x) w HS HM).mono f
    · have HM : Hid (∀ W, Below w.heap.size w W → Calls Try.prog 68 #[a] W fun e w' => e = .returned (.bool (mayBe x)) ∧ Below W.heap.size W w') := hid_of fun W hW => (set_call (h1.below hW) (by omega) hf.ls).mono fun e w' ⟨p1, p2⟩ => ⟨by rw [p1]; unfold mayBe; rw [if_neg (by omega), if_neg (by omega), if_neg (by omega), if_pos q], p2⟩
      have f := fin (.iface 77 a) (by omega) (by rw [q]; rfl)
      rw [q] at HS ⊢
      obtain ⟨aa, ac, rfl, _, _⟩ := id h1
      obtain ⟨ba, bc, rfl, _, _⟩ := id h2
      obtain ⟨ca, cc, rfl, _, _⟩ := id h3
      exact (raw4 (mk x.text) aa ba ca _ _ _ ac bc cc (stray x) (mayBe x) w HS HM).mono f
    · have HM : Hid (∀ W, Below w.heap.size w W → Calls Try.prog 72 #[c] W fun e w' => e = .returned (.bool (mayBe x)) ∧ Below W.heap.size W w') := hid_of fun W hW => (rank_call (h3.below hW) hr hf.rs).mono fun e w' ⟨p1, p2⟩ => ⟨by rw [p1]; unfold mayBe; rw [if_neg (by omega), if_neg (by omega), if_neg (by omega), if_neg (by omega)], p2⟩
      have f := fin (.iface 78 c) (by omega) (by rw [q]; rfl)
      rw [q] at HS ⊢
      obtain ⟨aa, ac, rfl, _, _⟩ := id h1
      obtain ⟨ba, bc, rfl, _, _⟩ := id h2
      obtain ⟨ca, cc, rfl, _, _⟩ := id h3
      exact (raw5 (mk x.text) aa ba ca _ _ _ ac bc cc (stray x) (mayBe x) w HS HM).mono f
set_option maxHeartbeats 2000000 in
set_option maxRecDepth 100000 in
theorem check_call {w : World} {v : Value} {x : Vl} (h : VA w v x) (hf : Wel x) :
    Calls Try.prog 22 #[v] w fun e w' => e = .returned (.int .i64 (chk x)) ∧ Below w.heap.size w w' := by
  obtain ⟨a, b, c, rfl, h1, h2, h3⟩ := h
  have HC := hid_of fun (W : World) (hW : Below w.heap.size w W) => checked_call (h1.below hW) (h2.below hW) (h3.below hW) hf
  obtain ⟨aa, ac, rfl, _, _⟩ := id h1
  obtain ⟨ba, bc, rfl, _, _⟩ := id h2
  obtain ⟨ca, cc, rfl, _, _⟩ := id h3
  generalize ckC x (.slice aa x.list.length ac) (.slice ba (List.length x.fields) bc) (.slice ca (List.length x.ranked) cc) = C at *
  generalize chk x = E at *
  generalize x.kind = k at *
  generalize mk x.text = X at *
  generalize x.list.length = an at *
  generalize List.length x.fields = bn at *
  generalize List.length x.ranked = cn at *
  obtain ⟨V, hV⟩ : ∃ V, V = w.alloc (.cells #[.int .i64 k, .string X, .slice aa an ac, .slice ba bn bc, .slice ca cn cc] 26) := ⟨_, rfl⟩
  have bV : Below w.heap.size w V := by rw [hV]; exact FRow.bnew w _
  have HV := hid_of hV
  have HB := hid_of bV
  clear bV hV h1 h2 h3
  go_enter Try.func22, Try.ntmps22
  go_wp2_with fail
  rw [← HV.out]
  refine (HC.out V HB.out).mono ?_
  rintro e w1 ⟨rfl, b1⟩
  have B1 := hid_of (FRow.bel HB.out b1 (Nat.le_refl _))
  clear b1 HC
  go_wp2_with fail
  go_ret
  exact ⟨rfl, B1.out⟩
end Go.Proofs.Ytdcnkdkhanmklab.Check
