/- The document's own Whole. -/
import Derived.Test.YtfkilbhhpipjbaaGreatDoorRefNext
import Derived.Test.YtfkilbhhpipjbaaGreatDoorRight
namespace Go.Proofs.YtfkilbhhpipjbaaGreatDoor.RefWhole
open Go.RowKit
open Go.Proofs.YtfkilbhhpipjbaaGreatDoor.TextMath
open Go.Proofs.YtfkilbhhpipjbaaGreatDoor.ReqMath
open Go.Proofs.YtfkilbhhpipjbaaGreatDoor.Base
open Go.Proofs.YtfkilbhhpipjbaaGreatDoor.Small
open Go.Proofs.YtfkilbhhpipjbaaGreatDoor.Append
open Go.Proofs.YtfkilbhhpipjbaaGreatDoor.Bulk2
open Go.Proofs.YtfkilbhhpipjbaaGreatDoor.BulkAny
open Go.Proofs.YtfkilbhhpipjbaaGreatDoor.SplitC
open Go.Proofs.YtfkilbhhpipjbaaGreatDoor.Whole
open Go.Proofs.YtfkilbhhpipjbaaGreatDoor.Right
open Go.Proofs.YtfkilbhhpipjbaaGreatDoor.RefThing
open Go.Proofs.YtfkilbhhpipjbaaGreatDoor.RefNext
set_option linter.unusedVariables false

theorem wa_rr {b : Nat} {L : Lim} {s : ByteArray} {a : Nat} {x : ByteArray} {t : Bool} {w w' : World} {v : Value} {reqs : List (List (List UInt8))} (hr : RR b L s a x t w) (h : WA w v reqs) (hf : Fr (fun q => q = b) w w') : WA w' v reqs := by
  obtain ⟨us, h1, h2, h3⟩ := h
  have hne : ∀ (g : Nat) (cs : Array Value) (ty : TypeId) (fz : Nat × Nat), w.heap[g]? = some (.cells cs ty fz) → ty ≠ 46 → w'.heap[g]? = w.heap[g]? := by
    intro g cs ty fz hg ht
    refine hf.block g (lt_of hg) (fun e => ht ?_)
    subst e
    unfold RR at hr
    rw [hg] at hr
    cases hr
    rfl
  refine ⟨us, ⟨h1.1, ?_⟩, h2, fun k u r hu hr' => ws_keep (h3 k u r hu hr') (fun g cs fz hg => hne g _ _ _ hg (by decide))⟩
  rcases h1.2 with x | ⟨g, cp, cur, x1, x2, x3, x4⟩
  · exact Or.inl x
  · exact Or.inr ⟨g, cp, cur, x1, x2, (hne g _ _ _ x3 (by decide)).trans x3, x4⟩
theorem rr_grown {b : Nat} {L : Lim} {s : ByteArray} {a : Nat} {w w' : World} {v : Value} {n : Nat} {xs : List Value} (h : RR b L s a ⟨#[]⟩ false w) (ho : w.ownsRow 8 33 1 v n xs) (hg : w.grownBy w' v.ownBlock) : RR b L s a ⟨#[]⟩ false w' := by
  refine (hg.block b (lt_of h) (fun e => ?_)).trans h
  obtain ⟨c, hc⟩ := owns_kind ho b e.symm
  unfold RR at h
  rw [h] at hc
  injection hc with hc
  injection hc with q1 q2
  cases q2
set_option maxRecDepth 100000 in
theorem rwhole_no (x y z : Int) (h : okB x y z = false) (s : ByteArray) (w : World) :
    Calls Tryz.prog 10 #[.agg #[.int .i64 x, .int .i64 y, .int .i64 z], .string s] w fun e w' => e = wh (.slice none 0 0) ⟨#[]⟩ 0 ∧ Below w.heap.size w w' := by
  have H1 := hid_of (fun w1 => rcheck_no x y z h w1)
  clear h
  unfold wh
  go_enter Tryz.func10, Tryz.ntmps10
  go_wp2_with fail
  refine (H1.out _).mono ?_
  rintro e w1 ⟨rfl, b1⟩
  have HB : Hid (Below w.heap.size w w1) := ((Below.refl _ w).alloc (Nat.le_refl _) _).trans (b1.mono (by simp))
  clear b1
  go_wp2_with fail
  go_ret3
  exact ⟨rfl, HB.out⟩
set_option maxHeartbeats 4000000 in
set_option maxRecDepth 100000 in
theorem rwhole_call (L : Lim) (h : okB L.bulk L.args L.line = true) (s : ByteArray) (hz : s.size ≤ 67108864) (w : World) (h8 : 8 ≤ w.heap.size) :
    Calls Tryz.prog 10 #[limV L, .string s] w fun e w' => ∃ v, e = wh v (mk (wholeS L (bs s)).word) ((wholeS L (bs s)).used : Int) ∧ WA w' v (wholeS L (bs s)).reqs ∧ Below w.heap.size w w' := by
  have hL := lok_of h
  have H1 := hid_of (fun w1 => rcheck_ok L.bulk L.args L.line h w1)
  have H8 := hid_of h8
  clear h h8
  unfold wh limV at *
  go_enter Tryz.func10, Tryz.ntmps10
  go_wp2_with fail
  refine (H1.out _).mono ?_
  rintro e w1 ⟨rfl, b1⟩
  have B1 : Hid (Below w.heap.size w w1) := ((Below.refl _ w).alloc (Nat.le_refl _) _).trans (b1.mono (by simp))
  have hl : w1.heap[w.heap.size]? = some (o23 L) := (b1.block _ (by simp)).trans (heap_alloc_new w _)
  have l0 : w1.cell? ⟨w.heap.size, 0, none⟩ = some (.int .i64 L.bulk) := Lib.cell_of_heap hl 0
  have l1 : w1.cell? ⟨w.heap.size, 1, none⟩ = some (.int .i64 L.args) := Lib.cell_of_heap hl 1
  have l2 : w1.cell? ⟨w.heap.size, 2, none⟩ = some (.int .i64 L.line) := Lib.cell_of_heap hl 2
  have hsz : w.heap.size < w1.heap.size := lt_of hl
  have m0 := World.new_ne w1 _ l0
  obtain ⟨V, hV⟩ : ∃ V, V = w1.alloc (.cells #[.int .i64 L.bulk, .int .i64 L.args, .int .i64 L.line, .string s, .int .i64 0, .string ⟨#[]⟩, .bool false] 46) := ⟨_, rfl⟩
  obtain ⟨b, hb⟩ : ∃ b, b = w1.heap.size := ⟨_, rfl⟩
  have RV : Hid (RR b L s 0 ⟨#[]⟩ false V) := by rw [hV, hb]; exact heap_alloc_new w1 _
  have BV : Hid (Below w.heap.size w V) := by rw [hV]; exact B1.out.alloc B1.out.size _
  have HBb : Hid (w.heap.size ≤ b) := by show _ ≤ _; rw [hb]; exact B1.out.size
  clear b1 hl
  go_wp2_with fail
  rw [← hV, ← hb]
  clear l0 l1 l2 hV hb m0 hsz
  go_loopg [8] s.size (fun g s8 wx => ∃ (j : Nat) (reqs : List (List (List UInt8))), j ≤ s.size ∧ s.size ≤ j + g ∧ Hid (RR b L s j ⟨#[]⟩ false wx ∧ WA wx s8 reqs ∧ (∀ g, s8.ownBlock = some g → w.heap.size ≤ g) ∧ reqs.length ≤ j ∧ wholeS L (bs s) = ⟨reqs ++ (wholeS L ((bs s).drop j)).reqs, (wholeS L ((bs s).drop j)).word, j + (wholeS L ((bs s).drop j)).used⟩ ∧ Below w.heap.size w wx))
  case atStart => exact ⟨0, [], by omega, by omega, ⟨RV.out, wa_nil _, fun g h => (by cases h), Nat.le_refl _, by simp, BV.out⟩⟩
  case round =>
    obtain ⟨j, reqs, hj, hg, HR⟩ := hrel
    have hlen : ((bs s).drop j).length = s.size - j := by rw [List.length_drop, len_bs]
    have HN := hid_of (rnext_call b L hL s j hj hz wr (Nat.le_trans H8.out HR.out.2.2.2.2.2.size) HR.out.1)
    have hbel : ∀ {w' : World}, Fr (fun q => q = b) wr w' → Below w.heap.size w w' := fun {w'} h => ((Fr.of_below (F := fun q => q = b) HR.out.2.2.2.2.2).trans h).below (fun x hx => by rw [hx]; exact HBb.out)
    have hwa : ∀ {w' : World}, Fr (fun q => q = b) wr w' → WA w' u8 reqs := fun {w'} h => wa_rr HR.out.1 HR.out.2.1 h
    have HBEL := hid_of (And.intro @hbel @hwa)
    clear hbel hwa
    cases hn : nextS L ((bs s).drop j) with
    | more k =>
      rw [hn] at HN
      have HW : Hid (wholeS L (bs s) = ⟨reqs, [], j + k⟩) := by show _ = _; rw [HR.out.2.2.2.2.1, whole_more hn, List.append_nil]
      clear hn hlen
      go_wp2_with fail
      refine HN.out.mono ?_
      rintro e w3 ⟨rfl, q1, q4⟩
      have HA := hid_of (HBEL.out.2 q4)
      have HB := hid_of (HBEL.out.1 q4)
      have c4 : w3.cell? ⟨b, 4, none⟩ = some (.int .i64 ((j + k : Nat) : Int)) := Lib.cell_of_heap q1 4
      have c5 : w3.cell? ⟨b, 5, none⟩ = some (.string ⟨#[]⟩) := Lib.cell_of_heap q1 5
      obtain ⟨d, hd⟩ : ∃ d, d = j + k := ⟨_, rfl⟩
      rw [← hd] at c4 HW
      clear q1 q4 hd
      go_wp2_with fail
      go_quiet (fail)
      go_wp2_with fail
      go_ret3
      rw [HW.out]
      exact ⟨_, rfl, wa_below HA.out ⟨rfl, rfl, rfl, Nat.le_refl _, fun _ _ => rfl⟩, HB.out.trans ⟨rfl, rfl, rfl, Nat.le_refl _, fun _ _ => rfl⟩⟩
    | fault k wd =>
      rw [hn] at HN
      have HW : Hid (wholeS L (bs s) = ⟨reqs, wd, j + k⟩) := by show _ = _; rw [HR.out.2.2.2.2.1, whole_fault hn, List.append_nil]
      clear hn hlen
      go_wp2_with fail
      refine HN.out.mono ?_
      rintro e w3 ⟨rfl, q1, q4⟩
      have HA := hid_of (HBEL.out.2 q4)
      have HB := hid_of (HBEL.out.1 q4)
      have c4 : w3.cell? ⟨b, 4, none⟩ = some (.int .i64 ((j + k : Nat) : Int)) := Lib.cell_of_heap q1 4
      have c5 : w3.cell? ⟨b, 5, none⟩ = some (.string (mk wd)) := Lib.cell_of_heap q1 5
      obtain ⟨d, hd⟩ : ∃ d, d = j + k := ⟨_, rfl⟩
      rw [← hd] at c4 HW
      clear q1 q4 hd
      go_wp2_with fail
      go_quiet (fail)
      go_wp2_with fail
      go_ret3
      rw [HW.out]
      exact ⟨_, rfl, wa_below HA.out ⟨rfl, rfl, rfl, Nat.le_refl _, fun _ _ => rfl⟩, HB.out.trans ⟨rfl, rfl, rfl, Nat.le_refl _, fun _ _ => rfl⟩⟩
    | one k ws =>
      rw [hn] at HN
      obtain ⟨n1, n2, n3⟩ := next_le_one hn
      have HW : Hid (wholeS L (bs s) = ⟨(reqs ++ [ws]) ++ (wholeS L ((bs s).drop (j + k))).reqs, (wholeS L ((bs s).drop (j + k))).word, (j + k) + (wholeS L ((bs s).drop (j + k))).used⟩) := by
        show _ = _
        rw [HR.out.2.2.2.2.1, whole_one hn, List.drop_drop]
        simp [Nat.add_assoc]
      obtain ⟨g', rfl⟩ : ∃ g', gk = g' + 1 := ⟨gk - 1, by omega⟩
      have hjk : j + k ≤ s.size := by omega
      clear hn hlen n2 n3
      go_wp2_with fail
      refine HN.out.mono ?_
      rintro e w3 ⟨v, rfl, q1, q2, q3, q5⟩
      have HE := hid_of (And.intro q1 (And.intro q3 (And.intro (HBEL.out.2 q5) (HBEL.out.1 q5))))
      obtain ⟨a, c, hv⟩ := ws_shape q1
      subst hv
      obtain ⟨us, o1, o2, o3⟩ := HBEL.out.2 q5
      have HB3 : Hid (Below w3.heap.size w3 (w3.alloc (.cells #[.slice a ws.length c] 33))) := (Below.refl _ w3).alloc (Nat.le_refl _) _
      have HO : Hid ((w3.alloc (.cells #[.slice a ws.length c] 33)).ownsRow 8 33 1 u8 us.length us) := owns_below o1 HB3.out
      have HO3 : Hid (us.length = reqs.length ∧ ∀ (k : Nat) u r, us[k]? = some u → reqs[k]? = some r → WS (w3.alloc (.cells #[.slice a ws.length c] 33)) u r) := ⟨o2, fun k u r hu hr => owns_below (o3 k u r hu hr) HB3.out⟩
      have HZ : Hid (8 ≤ (w3.alloc (.cells #[.slice a ws.length c] 33)).heap.size) := Nat.le_trans H8.out (Nat.le_trans (HBEL.out.1 q5).size (by simp))
      have HU : Hid ((w3.alloc (.cells #[.slice a ws.length c] 33)).cell? ⟨w3.heap.size, 0, none⟩ = some (.slice a ws.length c)) := World.cell?_alloc_new w3 #[.slice a ws.length c] 33 0
      have HXL : Hid (us.length + 1 ≤ 1000000000) := by show _ ≤ _; have := HR.out.2.2.2.1; omega
      clear q1 q2 q3 q5 o1 o2 o3
      go_wp2_with (at_builtin; refine wpl_one el24 rfl _ _ rfl u8 us.length us (w3.alloc (.cells #[.slice a ws.length c] 33)) ⟨w3.heap.size, 0, none⟩ 1 (.slice a ws.length c) HO.out HZ.out rfl rfl HU.out rfl HXL.out ?_)
      intro v' w4 hap
      have HAP : Hid (Apd 33 u8 us.length 1 (us ++ [.slice a ws.length c]) v' (w3.alloc (.cells #[.slice a ws.length c] 33)) w4) := hap
      clear hap
      go_wp2_with fail
      go_roundg (g' + 1 - k)
      case measure => omega
      case rel =>
        obtain ⟨q1, q3, _, hbel⟩ := HE.out
        have hbA : Below w.heap.size w (w3.alloc (.cells #[.slice a ws.length c] 33)) := hbel.alloc hbel.size _
        refine ⟨j + k, reqs ++ [ws], hjk, by omega, ⟨?_, ?_, ?_, ?_, HW.out, ?_⟩⟩
        · exact rr_grown (rr_below q3 HB3.out) HO.out HAP.out.2.1
        · exact wa_snoc HO.out HO3.out.1 HO3.out.2 (owns_below q1 HB3.out) HAP.out
        · intro g hg
          rcases HAP.out.2.2.1 g hg with q | q
          · exact HR.out.2.2.1 g q
          · exact Nat.le_trans hbA.size q
        · have := HR.out.2.2.2.1
          rw [List.length_append, List.length_singleton]
          omega
        · exact hbA.grown HAP.out.2.1 hbA.size HR.out.2.2.1
end Go.Proofs.YtfkilbhhpipjbaaGreatDoor.RefWhole
