/- Whole. -/
import Derived.Test.YtfkilbhhpipjbaaGreatDoorFeed
namespace Go.Proofs.YtfkilbhhpipjbaaGreatDoor.Whole
open Go.RowKit
open Go.Proofs.YtfkilbhhpipjbaaGreatDoor.TextMath
open Go.Proofs.YtfkilbhhpipjbaaGreatDoor.ReqMath
open Go.Proofs.YtfkilbhhpipjbaaGreatDoor.Base
open Go.Proofs.YtfkilbhhpipjbaaGreatDoor.Line
open Go.Proofs.YtfkilbhhpipjbaaGreatDoor.Small
open Go.Proofs.YtfkilbhhpipjbaaGreatDoor.Append
open Go.Proofs.YtfkilbhhpipjbaaGreatDoor.Bulk
open Go.Proofs.YtfkilbhhpipjbaaGreatDoor.Bulk2
open Go.Proofs.YtfkilbhhpipjbaaGreatDoor.BulkAny
open Go.Proofs.YtfkilbhhpipjbaaGreatDoor.SplitC
open Go.Proofs.YtfkilbhhpipjbaaGreatDoor.Typed
open Go.Proofs.YtfkilbhhpipjbaaGreatDoor.Thing
open Go.Proofs.YtfkilbhhpipjbaaGreatDoor.Pend
open Go.Proofs.YtfkilbhhpipjbaaGreatDoor.Req
open Go.Proofs.YtfkilbhhpipjbaaGreatDoor.Next
open Go.Proofs.YtfkilbhhpipjbaaGreatDoor.Feed
set_option linter.unusedVariables false

theorem el24 : El 24 33 (.slice none 0 0) 24 := ⟨Tryz.underlying24, info33, rfl, by decide⟩
/- blocks of bytes, of texts and of readers stand -/
def Kp (w w' : World) : Prop := ∀ (g : Nat) (cs : Array Value) (ty : TypeId) (fz : Nat × Nat), w.heap[g]? = some (.cells cs ty fz) → (ty = 5 ∨ ty = 9 ∨ ty = 75) → w'.heap[g]? = w.heap[g]?
theorem kp_below {w w' : World} (h : Below w.heap.size w w') : Kp w w' := fun g cs ty fz hg _ => h.block g (lt_of hg)
theorem kp_grown {w w' : World} {v : Value} {n : Nat} {xs : List Value} (ho : w.ownsRow 8 33 1 v n xs) (h : w.grownBy w' v.ownBlock) : Kp w w' := by
  intro g cs ty fz hg ht
  refine h.block g (lt_of hg) (fun e => ?_)
  obtain ⟨c, hc⟩ := owns_kind ho g e.symm
  rw [hg] at hc
  injection hc with hc
  injection hc with q1 q2
  subst q2
  rcases ht with q | q | q <;> exact absurd q (by decide)
theorem ps_keep {b : Nat} {L : Lim} {P : List UInt8} {used : Nat} {lv wv : Value} {w w' : World} (h : PS b L P used lv wv w) (hk : Kp w w') : PS b L P used lv wv w' := by
  obtain ⟨t, k, ws, wanted, read, h1, h2⟩ := h
  refine ⟨t, k, ws, wanted, read, ⟨(hk b _ _ _ h1.rb (Or.inr (Or.inr rfl))).trans h1.rb, h1.sl.later (fun g hg => ?_), ws_later h1.wk (fun g hg => ?_), h1.kl, h1.kn⟩, h2⟩
  · obtain ⟨c, hc⟩ := by_kind h1.sl g hg
    exact hk g _ _ _ hc (Or.inl rfl)
  · obtain ⟨c, hc⟩ := owns_kind h1.wk g hg
    exact hk g _ _ _ hc (Or.inr (Or.inl rfl))
/- a list of requests of the call's own -/
def WA (w : World) (v : Value) (reqs : List (List (List UInt8))) : Prop := ∃ us : List Value, w.ownsRow 8 33 1 v us.length us ∧ us.length = reqs.length ∧ ∀ (k : Nat) u r, us[k]? = some u → reqs[k]? = some r → WS w u r
theorem wa_nil (w : World) : WA w (.slice none 0 0) [] := ⟨[], World.ownsRow_nil _ _ _ _, rfl, fun k u r h => by cases h⟩
theorem ws_keep {w w' : World} {v : Value} {ws : List (List UInt8)} (h : WS w v ws) (hk : ∀ (g : Nat) (cs : Array Value) (fz : Nat × Nat), w.heap[g]? = some (.cells cs 9 fz) → w'.heap[g]? = w.heap[g]?) : WS w' v ws :=
  ws_later h (fun g hg => by obtain ⟨c, hc⟩ := owns_kind h g hg; exact hk g _ _ hc)
theorem wa_below {w w' : World} {v : Value} {reqs : List (List (List UInt8))} (h : WA w v reqs) (hb : Below w.heap.size w w') : WA w' v reqs := by
  obtain ⟨us, h1, h2, h3⟩ := h
  exact ⟨us, owns_below h1 hb, h2, fun k u r hu hr => owns_below (h3 k u r hu hr) hb⟩
theorem wa_one {b : Nat} {L : Lim} {lv : Value} {k : Nat} {wv : Value} {wanted read used : Nat} {ft : ByteArray} {w w' : World} {v : Value} {reqs : List (List (List UInt8))} (hr : RB b L lv k wv wanted read used ft w) (h : WA w v reqs) (hf : Fr (fun q => q = b) w w') : WA w' v reqs := by
  obtain ⟨us, h1, h2, h3⟩ := h
  have hne : ∀ (g : Nat) (cs : Array Value) (ty : TypeId) (fz : Nat × Nat), w.heap[g]? = some (.cells cs ty fz) → ty ≠ 75 → w'.heap[g]? = w.heap[g]? := by
    intro g cs ty fz hg ht
    refine hf.block g (lt_of hg) (fun e => ht ?_)
    subst e
    unfold RB at hr
    rw [hg] at hr
    cases hr
    rfl
  refine ⟨us, ⟨h1.1, ?_⟩, h2, fun k u r hu hr' => ws_keep (h3 k u r hu hr') (fun g cs fz hg => hne g _ _ _ hg (by decide))⟩
  rcases h1.2 with x | ⟨g, cp, cur, x1, x2, x3, x4⟩
  · exact Or.inl x
  · exact Or.inr ⟨g, cp, cur, x1, x2, (hne g _ _ _ x3 (by decide)).trans x3, x4⟩
theorem wa_snoc {w w' : World} {v v' u : Value} {reqs : List (List (List UInt8))} {r : List (List UInt8)} {us : List Value} (h1 : w.ownsRow 8 33 1 v us.length us) (h2 : us.length = reqs.length) (h3 : ∀ (k : Nat) u r, us[k]? = some u → reqs[k]? = some r → WS w u r) (hu : WS w u r) (ha : Apd 33 v us.length 1 (us ++ [u]) v' w w') : WA w' v' (reqs ++ [r]) := by
  have hk : ∀ {x : Value} {q : List (List UInt8)}, WS w x q → WS w' x q := fun {x q} h => ws_keep h (fun g cs fz hg => kp_grown h1 ha.2.1 g _ _ _ hg (Or.inr (Or.inl rfl)))
  refine ⟨us ++ [u], by rw [List.length_append]; exact ha.1, by rw [List.length_append, List.length_append, h2]; rfl, fun k x q hx hq => ?_⟩
  by_cases hlt : k < us.length
  · rw [List.getElem?_append_left hlt] at hx
    rw [List.getElem?_append_left (by omega)] at hq
    exact hk (h3 k x q hx hq)
  · rw [List.getElem?_append_right (by omega)] at hx
    rw [List.getElem?_append_right (by omega), ← h2] at hq
    obtain ⟨j, hj⟩ : ∃ j, j = k - us.length := ⟨_, rfl⟩
    rw [← hj] at hx hq
    cases j with
    | zero =>
      cases hx
      cases hq
      exact hk hu
    | succ j => cases hx
theorem lok_of {L : Lim} (h : okB L.bulk L.args L.line = true) : Lok L := by
  obtain ⟨h1, h2, h3, h4, h5, h6⟩ := of_decide_eq_true h
  exact ⟨⟨by omega, by omega⟩, ⟨by omega, by omega⟩, ⟨by omega, by omega⟩⟩
@[reducible] def wh (v : Value) (x : ByteArray) (n : Int) : Ending := .returned (.tuple #[v, .string x, .int .i64 n])
set_option maxRecDepth 100000 in
theorem whole_no (x y z : Int) (h : okB x y z = false) (s : ByteArray) (w : World) :
    Calls Tryz.prog 9 #[.agg #[.int .i64 x, .int .i64 y, .int .i64 z], .string s] w fun e w' => e = wh (.slice none 0 0) ⟨#[]⟩ 0 ∧ Below w.heap.size w w' := by
  have H1 := hid_of (fun w1 => new_no x y z h w1)
  clear h
  unfold wh
  go_enter Tryz.func9, Tryz.ntmps9
  go_wp2_with fail
  refine (H1.out _).mono ?_
  rintro e w1 ⟨rfl, b1⟩
  have HB : Hid (Below w.heap.size w w1) := ((Below.refl _ w).alloc (Nat.le_refl _) _).trans (b1.mono (by simp))
  clear b1
  go_wp2_with fail
  go_ret3
  exact ⟨rfl, HB.out⟩
set_option maxHeartbeats 4000000 in
set_option maxRecDepth 100000 in
theorem whole_call (L : Lim) (h : okB L.bulk L.args L.line = true) (s : ByteArray) (hz : s.size ≤ 67108864) (w : World) (hh : Has w) (hC : C34 (bs s)) :
    Calls Tryz.prog 9 #[limV L, .string s] w fun e w' => ∃ v, e = wh v (mk (wholeS L (bs s)).word) ((wholeS L (bs s)).used : Int) ∧ WA w' v (wholeS L (bs s)).reqs ∧ Below w.heap.size w w' := by
  have hL := lok_of h
  have H1 := hid_of (fun w1 => new_ok L h w1)
  have HH := hid_of hh
  have HC := hid_of hC
  clear h hh hC
  unfold wh limV at *
  go_enter Tryz.func9, Tryz.ntmps9
  go_wp2_with fail
  refine (H1.out _).mono ?_
  rintro e w1 ⟨b, rfl, hb, r1, b1⟩
  have B1 : Hid (Below w.heap.size w w1) := ((Below.refl _ w).alloc (Nat.le_refl _) _).trans (b1.mono (by simp))
  have hb1 : w.heap.size < b := by simp at hb; omega
  have h8 : 8 ≤ b := by have := HH.out.size; omega
  have P1 : PS b L [] 0 (.slice none 0 0) (.slice none 0 0) w1 := ⟨⟨#[]⟩, 0, [], 0, 0, ⟨r1, BySl.nil _, World.ownsRow_nil _ _ _ _, Nat.le_refl _, rfl⟩, Nat.le_refl _, rfl, Or.inl ⟨rfl, rfl, rfl⟩, by simp⟩
  have HF := hid_of (feed_call b L [] 0 _ _ s w1 P1 (by simp; omega) (HH.out.later B1.out).size)
  clear b1 r1 P1 hb
  go_wp2_with fail
  refine HF.out.mono ?_
  rintro e w2 ⟨rfl, lv2, p2, sb2, f2⟩
  rw [List.nil_append] at p2
  have f2' : Fr (fun q => q = b) w1 w2 := f2.wide (fun q hq => hq.elim id (fun e => by cases e))
  have B2 : Hid (Below w.heap.size w w2) := ((Fr.of_below (F := fun q => q = b) B1.out).trans f2').below (fun x hx => by rw [hx]; omega)
  have HP2 := hid_of p2
  clear p2 sb2 f2 f2'
  go_wp2_with fail
  go_loopg [9, 4, 5, 6, 10, 11] s.size (fun g s9 _ _ _ _ _ wx => ∃ (j : Nat) (lv' : Value) (reqs : List (List (List UInt8))), j ≤ s.size ∧ s.size ≤ j + g ∧ Hid (PS b L ((bs s).drop j) j lv' (.slice none 0 0) wx ∧ WA wx s9 reqs ∧ (∀ g, s9.ownBlock = some g → w.heap.size ≤ g) ∧ reqs.length ≤ j ∧ wholeS L (bs s) = ⟨reqs ++ (wholeS L ((bs s).drop j)).reqs, (wholeS L ((bs s).drop j)).word, j + (wholeS L ((bs s).drop j)).used⟩ ∧ Below w.heap.size w wx))
  case atStart => exact ⟨0, lv2, [], by omega, by omega, ⟨by rw [List.drop_zero]; exact HP2.out, wa_nil _, fun g h => (by cases h), Nat.le_refl _, by simp, B2.out⟩⟩
  case round =>
    obtain ⟨j, lv', reqs, hj, hg, HR⟩ := hrel
    have hlen : ((bs s).drop j).length = s.size - j := by rw [List.length_drop, len_bs]
    have HN := hid_of (next_one_call b L ((bs s).drop j) j lv' (.slice none 0 0) wr hL HR.out.1 (by omega) (HH.out.later HR.out.2.2.2.2.2) h8 (HC.out.elim (fun h => Or.inl (fun hm => h (List.mem_of_mem_drop hm))) Or.inr))
    have frb : ∀ {w' : World}, Fr (FB b (.slice none 0 0)) wr w' → Fr (fun q => q = b) wr w' := fun {w'} h => h.wide (fun q hq => hq.elim id (fun e => by cases e))
    have hbel : ∀ {w' : World}, Fr (FB b (.slice none 0 0)) wr w' → Below w.heap.size w w' := fun {w'} h => ((Fr.of_below (F := fun q => q = b) HR.out.2.2.2.2.2).trans (frb h)).below (fun x hx => by rw [hx]; omega)
    have hwa : ∀ {w' : World}, Fr (FB b (.slice none 0 0)) wr w' → WA w' u9 reqs := fun {w'} h => by
      obtain ⟨t, k, ws, wanted, read, h1, _⟩ := HR.out.1
      exact wa_one h1.rb HR.out.2.1 (frb h)
    have HBEL := hid_of (And.intro @hbel @hwa)
    clear frb hbel hwa
    cases hn : nextS L ((bs s).drop j) with
    | more k =>
      rw [hn] at HN
      have HW : Hid (wholeS L (bs s) = ⟨reqs, [], j + k⟩) := by show _ = _; rw [HR.out.2.2.2.2.1, whole_more hn, List.append_nil]
      clear hn hlen
      go_wp2_with fail
      refine HN.out.mono ?_
      rintro e w3 ⟨rfl, lv3, wv3, q1, q2, q3, q4⟩
      have rb3 : ∃ L' lv k' wv wanted read, RB b L' lv k' wv wanted read (j + k) ⟨#[]⟩ w3 := by
        obtain ⟨t, k', ws, wanted, read, h1, _⟩ := q1
        exact ⟨_, _, _, _, _, _, h1.rb⟩
      obtain ⟨L3, lv4, k4, wv4, wd4, rd4, rb3⟩ := rb3
      have HA := hid_of (HBEL.out.2 q4)
      have HB := hid_of (HBEL.out.1 q4)
      have H25 := hid_of (fault_call b L3 lv4 k4 wv4 wd4 rd4 (j + k) _ w3 rb3)
      have H28 := hid_of (used_call b L3 lv4 k4 wv4 wd4 rd4 (j + k) _ w3 rb3)
      clear q1 q2 q3 q4 rb3
      go_wp2_with fail
      refine H25.out.mono ?_
      rintro e w4 ⟨rfl, hw⟩
      subst hw
      go_wp2_with fail
      refine H28.out.mono ?_
      rintro e w5 ⟨rfl, hw⟩
      subst hw
      go_wp2_with fail
      go_ret3
      rw [HW.out]
      exact ⟨_, rfl, HA.out, HB.out⟩
    | fault k wd =>
      rw [hn] at HN
      have HW : Hid (wholeS L (bs s) = ⟨reqs, wd, j + k⟩) := by show _ = _; rw [HR.out.2.2.2.2.1, whole_fault hn, List.append_nil]
      clear hn hlen
      go_wp2_with fail
      refine HN.out.mono ?_
      rintro e w3 ⟨rfl, rb3, q4⟩
      have HA := hid_of (HBEL.out.2 q4)
      have HB := hid_of (HBEL.out.1 q4)
      have H25 := hid_of (fault_call b _ _ _ _ _ _ (j + k) _ w3 rb3)
      have H28 := hid_of (used_call b _ _ _ _ _ _ (j + k) _ w3 rb3)
      clear q4 rb3
      go_wp2_with fail
      refine H25.out.mono ?_
      rintro e w4 ⟨rfl, hw⟩
      subst hw
      go_wp2_with fail
      refine H28.out.mono ?_
      rintro e w5 ⟨rfl, hw⟩
      subst hw
      go_wp2_with fail
      go_ret3
      rw [HW.out]
      exact ⟨_, rfl, HA.out, HB.out⟩
    | one k ws =>
      rw [hn] at HN
      obtain ⟨n1, n2, n3⟩ := next_le_one hn
      have HW : Hid (wholeS L (bs s) = ⟨(reqs ++ [ws]) ++ (wholeS L ((bs s).drop (j + k))).reqs, (wholeS L ((bs s).drop (j + k))).word, (j + k) + (wholeS L ((bs s).drop (j + k))).used⟩) := by
        show _ = _
        rw [HR.out.2.2.2.2.1, whole_one hn, List.drop_drop]
        simp [Nat.add_assoc]
      obtain ⟨g', rfl⟩ : ∃ g', gk = g' + 1 := ⟨gk - 1, by omega⟩
      have hjk : j + k ≤ s.size := by omega
      clear hn hlen n2 n3
      go_wp2_with fail
      refine HN.out.mono ?_
      rintro e w3 ⟨v, rfl, q1, q2, lv3, q3, q4, q5⟩
      have HE := hid_of (And.intro q1 (And.intro q3 (And.intro (HBEL.out.2 q5) (HBEL.out.1 q5))))
      have hf : ∃ a n c, v = .slice a n c := by
        rcases ws_form q1 with ⟨h1, h2⟩ | ⟨g, cap, h1⟩
        · exact ⟨none, 0, 0, h1⟩
        · exact ⟨_, _, _, h1⟩
      obtain ⟨a, n, c, rfl⟩ := hf
      obtain ⟨us, o1, o2, o3⟩ := HBEL.out.2 q5
      have HB3 : Hid (Below w3.heap.size w3 (w3.alloc (.cells #[.slice a n c] 33))) := (Below.refl _ w3).alloc (Nat.le_refl _) _
      have HO : Hid ((w3.alloc (.cells #[.slice a n c] 33)).ownsRow 8 33 1 u9 us.length us) := owns_below o1 HB3.out
      have HO3 : Hid (us.length = reqs.length ∧ ∀ (k : Nat) u r, us[k]? = some u → reqs[k]? = some r → WS (w3.alloc (.cells #[.slice a n c] 33)) u r) := ⟨o2, fun k u r hu hr => owns_below (o3 k u r hu hr) HB3.out⟩
      have HZ : Hid (8 ≤ (w3.alloc (.cells #[.slice a n c] 33)).heap.size) := Nat.le_trans HH.out.size (Nat.le_trans (HBEL.out.1 q5).size (by simp))
      have HU : Hid ((w3.alloc (.cells #[.slice a n c] 33)).cell? ⟨w3.heap.size, 0, none⟩ = some (.slice a n c)) := World.cell?_alloc_new w3 #[.slice a n c] 33 0
      have HXL : Hid (us.length + 1 ≤ 1000000000) := by show _ ≤ _; have := HR.out.2.2.2.1; omega
      clear q1 q2 q3 q4 q5 o1 o2 o3
      go_wp2_with (at_builtin; refine wpl_one el24 rfl _ _ rfl u9 us.length us (w3.alloc (.cells #[.slice a n c] 33)) ⟨w3.heap.size, 0, none⟩ 1 (.slice a n c) HO.out HZ.out rfl rfl HU.out rfl HXL.out ?_)
      intro v' w4 hap
      have HAP : Hid (Apd 33 u9 us.length 1 (us ++ [.slice a n c]) v' (w3.alloc (.cells #[.slice a n c] 33)) w4) := hap
      clear hap
      go_wp2_with fail
      go_roundg (g' + 1 - k)
      case measure => omega
      case rel =>
        obtain ⟨q1, q3, _, hbel⟩ := HE.out
        have hbA : Below w.heap.size w (w3.alloc (.cells #[.slice a n c] 33)) := hbel.alloc hbel.size _
        refine ⟨j + k, lv3, reqs ++ [ws], hjk, by omega, ⟨?_, ?_, ?_, ?_, HW.out, ?_⟩⟩
        · rw [List.drop_drop] at q3
          exact ps_keep (ps_keep q3 (kp_below HB3.out)) (kp_grown HO.out HAP.out.2.1)
        · exact wa_snoc HO.out HO3.out.1 HO3.out.2 (owns_below q1 HB3.out) HAP.out
        · intro g hg
          rcases HAP.out.2.2.1 g hg with q | q
          · exact HR.out.2.2.1 g q
          · exact Nat.le_trans hbA.size q
        · have := HR.out.2.2.2.1
          rw [List.length_append, List.length_singleton]
          omega
        · exact hbA.grown HAP.out.2.1 hbA.size HR.out.2.2.1
end Go.Proofs.YtfkilbhhpipjbaaGreatDoor.Whole
