/- The next request; giving up. -/
import Derived.Test.YtfkilbhhpipjbaaGreatDoorPend
import Derived.Recover
import Derived.Defers
namespace Go.Proofs.YtfkilbhhpipjbaaGreatDoor.Req
open Go.RowKit
open Go.Proofs.YtfkilbhhpipjbaaGreatDoor.TextMath
open Go.Proofs.YtfkilbhhpipjbaaGreatDoor.ReqMath
open Go.Proofs.YtfkilbhhpipjbaaGreatDoor.Base
open Go.Proofs.YtfkilbhhpipjbaaGreatDoor.Line
open Go.Proofs.YtfkilbhhpipjbaaGreatDoor.Small
open Go.Proofs.YtfkilbhhpipjbaaGreatDoor.Append
open Go.Proofs.YtfkilbhhpipjbaaGreatDoor.Bulk
open Go.Proofs.YtfkilbhhpipjbaaGreatDoor.Bulk2
open Go.Proofs.YtfkilbhhpipjbaaGreatDoor.BulkAny
open Go.Proofs.YtfkilbhhpipjbaaGreatDoor.SplitC
open Go.Proofs.YtfkilbhhpipjbaaGreatDoor.Typed
open Go.Proofs.YtfkilbhhpipjbaaGreatDoor.First
open Go.Proofs.YtfkilbhhpipjbaaGreatDoor.Thing
open Go.Proofs.YtfkilbhhpipjbaaGreatDoor.Pend
set_option linter.unusedVariables false

def RE (b : Nat) (L : Lim) (P : List UInt8) (used : Nat) (lv wv : Value) (w : World) (e : Ending) (w' : World) : NR → Prop
  | .more k => e = gaveUp [] ∧ ∃ lv' wv', PS b L (P.drop k) (used + k) lv' wv' w' ∧ (∀ g, slBlock lv' = some g → slBlock lv = some g) ∧ (∀ g, wv'.ownBlock = some g → wv.ownBlock = some g ∨ w.heap.size ≤ g) ∧ Fr (FB b wv) w w'
  | .fault k wd => e = gaveUp wd ∧ ∃ lv' k' wv' wanted' read', RB b L lv' k' wv' wanted' read' (used + k) ⟨#[]⟩ w' ∧ Fr (FB b wv) w w'
  | .one k ws => ∃ v, e = .returned v ∧ WS w' v ws ∧ (∀ g, v.ownBlock = some g → wv.ownBlock = some g ∨ w.heap.size ≤ g) ∧ ∃ lv', PS b L (P.drop k) (used + k) lv' (.slice none 0 0) w' ∧ (∀ g, slBlock lv' = some g → slBlock lv = some g) ∧ Fr (FB b wv) w w'
theorem nr_add_le {L : Lim} {P : List UInt8} {j : Nat} (h : nextS L P = (nextS L (P.drop j)).add j) (hj : j ≤ P.length) : True := trivial
set_option maxHeartbeats 4000000 in
set_option maxRecDepth 100000 in
theorem request_call (b : Nat) (L : Lim) (P : List UInt8) (used : Nat) (lv wv : Value) (w : World) (hL : Lok L) (hp : PS b L P used lv wv w) (hz : used + P.length ≤ 67108864) (hh : Has w) (hb8 : 8 ≤ b) (hC : C34 P) :
    Calls Tryz.prog 42 #[.pointer (some ⟨b, 0, none⟩)] w fun e w' => RE b L P used lv wv w e w' (nextS L P) := by
  have HS := hid_of hp
  have HH := hid_of hh
  have HC := hid_of hC
  obtain ⟨ws0, hw0⟩ : ∃ ws, WS w wv ws := by obtain ⟨t, k, ws, _, _, h, _⟩ := hp; exact ⟨ws, h.wk⟩
  have HW0 := hid_of hw0
  clear hp hh hC hw0
  go_enter Tryz.func42, Tryz.ntmps42
  go_wp2_with fail
  go_loopg [2, 3] P.length (fun g _ _ wx => ∃ lv' wv' j, j ≤ P.length ∧ P.length ≤ j + g ∧ Hid (PS b L (P.drop j) (used + j) lv' wv' wx ∧ nextS L P = (nextS L (P.drop j)).add j ∧ (∀ g, slBlock lv' = some g → slBlock lv = some g) ∧ (∀ g, wv'.ownBlock = some g → wv.ownBlock = some g ∨ w.heap.size ≤ g) ∧ Fr (FB b wv) w wx))
  case atStart => exact ⟨lv, wv, 0, by omega, by omega, ⟨HS.out, by rw [List.drop_zero, add_zero_nr], fun g h => h, fun g h => Or.inl h, Fr.refl _ _⟩⟩
  case round =>
    obtain ⟨lv', wv', j, hj, hg, HR⟩ := hrel
    have hlen : (P.drop j).length = P.length - j := List.length_drop
    have HT := hid_of (thing_call b L (P.drop j) (used + j) lv' wv' wr hL HR.out.1 (by omega) (has_fb HH.out hb8 HW0.out HR.out.2.2.2.2) hb8 (HC.out.elim (fun h => Or.inl (fun hm => h (List.mem_of_mem_drop hm))) Or.inr))
    cases hth : thingS L (P.drop j) with
    | more =>
      rw [hth] at HT
      have HN : Hid (nextS L P = .more (j + 0)) := by show _ = _; rw [HR.out.2.1, next_more hth]; rfl
      clear hth hlen
      go_wp2_with fail
      refine HT.out.mono ?_
      rintro e w1 ⟨rfl, lv2, wv2, q1, q2, q3, q4⟩
      refine ⟨rfl, ?_⟩
      rw [HN.out]
      refine ⟨rfl, lv2, wv2, q1, fun g hg => HR.out.2.2.1 g (q2 g hg), ?_, fb_go HR.out.2.2.2.2 HR.out.2.2.2.1 q4⟩
      intro g hg
      rcases q3 g hg with q | q
      · exact HR.out.2.2.2.1 g q
      · exact Or.inr (Nat.le_trans HR.out.2.2.2.2.size q)
    | fault wd =>
      rw [hth] at HT
      have HN : Hid (nextS L P = .fault (j + 0) wd) := by show _ = _; rw [HR.out.2.1, next_fault hth]; rfl
      clear hth hlen
      go_wp2_with fail
      refine HT.out.mono ?_
      rintro e w1 ⟨rfl, lv2, k2, wv2, wd2, rd2, q1, q2⟩
      refine ⟨rfl, ?_⟩
      rw [HN.out]
      exact ⟨rfl, lv2, k2, wv2, wd2, rd2, q1, fb_go HR.out.2.2.2.2 HR.out.2.2.2.1 q2⟩
    | done n ws =>
      rw [hth] at HT
      have HTH := hid_of hth
      clear hth
      go_wp2_with fail
      refine HT.out.mono ?_
      rintro e w1 ⟨rfl, hn0, hnl, lv2, t2, k2, wv2, q1, q2, q3, q4, q5⟩
      have f5 : w1.cell? ⟨b, 5, none⟩ = _ := q1.rb.cell 5
      have z5 : w1.frozen? ⟨b, 5, none⟩ = false := q1.rb.frozen 5
      have hown : ∀ g, wv2.ownBlock = some g → wv.ownBlock = some g ∨ w.heap.size ≤ g := by
        intro g hg
        rcases q4 g hg with q | q
        · exact HR.out.2.2.2.1 g q
        · exact Or.inr (Nat.le_trans HR.out.2.2.2.2.size q)
      have hf : ∃ a c, wv2 = .slice a ws.length c := by
        rcases ws_form q1.wk with ⟨h1, h2⟩ | ⟨g, cap, h1⟩
        · exact ⟨none, 0, by rw [h1, h2]; rfl⟩
        · exact ⟨_, _, h1⟩
      obtain ⟨a, c, rfl⟩ := hf
      have HE := hid_of (And.intro q1 (And.intro q2 (And.intro q3 (And.intro hown q5))))
      have hln : n ≤ P.length - j := by rw [hlen] at hnl; exact hnl
      clear q1 q2 q3 q4 q5 hown hlen hnl
      by_cases hw : ws = []
      · subst hw
        obtain ⟨g', rfl⟩ : ∃ g', gk = g' + 1 := ⟨gk - 1, by omega⟩
        go_wp2_with fail
        go_roundg g'
        case measure => omega
        case rel =>
          obtain ⟨q1, q2, q3, hown, q5⟩ := HE.out
          refine ⟨lv2, _, j + n, by omega, by omega, ⟨⟨t2, k2, [], 0, 0, ?_, Nat.zero_le _, ?_, Or.inl ⟨rfl, rfl, rfl⟩, by simp⟩, ?_, fun g hg => HR.out.2.2.1 g (q3 g hg), hown, fb_go HR.out.2.2.2.2 HR.out.2.2.2.1 q5⟩⟩
          · have e1 : used + (j + n) = used + j + n := by omega
            rw [e1]; exact q1
          · rw [List.drop_zero, q2, List.drop_drop]
          · rw [HR.out.2.1, next_pass HTH.out, add_add_nr, List.drop_drop]
      · have g2 : (0 : Int) < (ws.length : Int) := by
          cases ws with
          | nil => exact absurd rfl hw
          | cons a b => simp
        have HN : Hid (nextS L P = .one (j + n) ws) := by show _ = _; rw [HR.out.2.1, next_one HTH.out hw]; rfl
        clear hw
        go_wp2_with fail
        go_ret
        rw [HN.out]
        obtain ⟨q1, q2, q3, hown, q5⟩ := HE.out
        have F1 : Fr (fun q => q = b) w1 (w1.setCell ⟨b, 5, none⟩ (.slice none 0 0)) := (Fr.refl _ w1).one _
        refine ⟨_, rfl, owns_set q1.wk (ws_ne q1.rb q1.wk), hown, lv2, ⟨t2, k2, [], 0, 0, ⟨?_, by_set q1.sl q1.rb, World.ownsRow_nil _ _ _ _, q1.kl, q1.kn⟩, Nat.zero_le _, ?_, Or.inl ⟨rfl, rfl, rfl⟩, by simp⟩, fun g hg => HR.out.2.2.1 g (q3 g hg), (fb_go HR.out.2.2.2.2 HR.out.2.2.2.1 q5).trans (wide1 F1)⟩
        · have e1 : used + (j + n) = used + j + n := by omega
          rw [e1]; exact set_at q1.rb _
        · rw [List.drop_zero, q2, List.drop_drop]
/- giving up -/
theorem set_ten {w : World} {b : Nat} {v0 v1 v2 v3 v4 v5 v6 v7 v8 v9 a0 a1 a2 a3 a4 a5 a6 a7 a8 a9 : Value} (h : w.heap[b]? = some (.cells #[v0, v1, v2, v3, v4, v5, v6, v7, v8, v9] 75 (0, 0))) :
    ((((((((((w.setCell ⟨b, 0, none⟩ a0).setCell ⟨b, 1, none⟩ a1).setCell ⟨b, 2, none⟩ a2).setCell ⟨b, 3, none⟩ a3).setCell ⟨b, 4, none⟩ a4).setCell ⟨b, 5, none⟩ a5).setCell ⟨b, 6, none⟩ a6).setCell ⟨b, 7, none⟩ a7).setCell ⟨b, 8, none⟩ a8).setCell ⟨b, 9, none⟩ a9).heap[b]? = some (.cells #[a0, a1, a2, a3, a4, a5, a6, a7, a8, a9] 75 (0, 0)) := by
  have h0 : (w.setCell ⟨b, 0, none⟩ a0).heap[b]? = some (.cells #[a0, v1, v2, v3, v4, v5, v6, v7, v8, v9] 75 (0, 0)) := set_at h a0
  have h1 : ((w.setCell ⟨b, 0, none⟩ a0).setCell ⟨b, 1, none⟩ a1).heap[b]? = some (.cells #[a0, a1, v2, v3, v4, v5, v6, v7, v8, v9] 75 (0, 0)) := set_at h0 a1
  generalize (w.setCell ⟨b, 0, none⟩ a0).setCell ⟨b, 1, none⟩ a1 = x at h1 ⊢
  have h2 : (x.setCell ⟨b, 2, none⟩ a2).heap[b]? = some (.cells #[a0, a1, a2, v3, v4, v5, v6, v7, v8, v9] 75 (0, 0)) := set_at h1 a2
  generalize x.setCell ⟨b, 2, none⟩ a2 = x at h2 ⊢
  have h3 : (x.setCell ⟨b, 3, none⟩ a3).heap[b]? = some (.cells #[a0, a1, a2, a3, v4, v5, v6, v7, v8, v9] 75 (0, 0)) := set_at h2 a3
  generalize x.setCell ⟨b, 3, none⟩ a3 = x at h3 ⊢
  have h4 : (x.setCell ⟨b, 4, none⟩ a4).heap[b]? = some (.cells #[a0, a1, a2, a3, a4, v5, v6, v7, v8, v9] 75 (0, 0)) := set_at h3 a4
  generalize x.setCell ⟨b, 4, none⟩ a4 = x at h4 ⊢
  have h5 : (x.setCell ⟨b, 5, none⟩ a5).heap[b]? = some (.cells #[a0, a1, a2, a3, a4, a5, v6, v7, v8, v9] 75 (0, 0)) := set_at h4 a5
  generalize x.setCell ⟨b, 5, none⟩ a5 = x at h5 ⊢
  have h6 : (x.setCell ⟨b, 6, none⟩ a6).heap[b]? = some (.cells #[a0, a1, a2, a3, a4, a5, a6, v7, v8, v9] 75 (0, 0)) := set_at h5 a6
  generalize x.setCell ⟨b, 6, none⟩ a6 = x at h6 ⊢
  have h7 : (x.setCell ⟨b, 7, none⟩ a7).heap[b]? = some (.cells #[a0, a1, a2, a3, a4, a5, a6, a7, v8, v9] 75 (0, 0)) := set_at h6 a7
  generalize x.setCell ⟨b, 7, none⟩ a7 = x at h7 ⊢
  have h8 : (x.setCell ⟨b, 8, none⟩ a8).heap[b]? = some (.cells #[a0, a1, a2, a3, a4, a5, a6, a7, a8, v9] 75 (0, 0)) := set_at h7 a8
  generalize x.setCell ⟨b, 8, none⟩ a8 = x at h8 ⊢
  exact set_at h8 a9
theorem fr_ten {w : World} {b : Nat} {a0 a1 a2 a3 a4 a5 a6 a7 a8 a9 : Value} : Fr (fun q => q = b) w ((((((((((w.setCell ⟨b, 0, none⟩ a0).setCell ⟨b, 1, none⟩ a1).setCell ⟨b, 2, none⟩ a2).setCell ⟨b, 3, none⟩ a3).setCell ⟨b, 4, none⟩ a4).setCell ⟨b, 5, none⟩ a5).setCell ⟨b, 6, none⟩ a6).setCell ⟨b, 7, none⟩ a7).setCell ⟨b, 8, none⟩ a8).setCell ⟨b, 9, none⟩ a9) :=
  ((((((((((Fr.refl _ w).one _).one _).one _).one _).one _).one _).one _).one _).one _).one _
theorem ta (s : ByteArray) (w : World) : (Instr.typeAssert (.iface 73 (.string s)) 20 73 false).run Tryz.prog w = .ok (.string s) w := by kernel_rfl
set_option maxRecDepth 100000 in
theorem give_more (b : Nat) (w : World) :
    Calls Tryz.prog 41 #[.pointer (some ⟨b, 0, none⟩), .iface 73 (.string ⟨#[]⟩)] w fun e w' => e = .returned (.int .i64 0) ∧ w' = w := by
  have hta := ta
  go_enter Tryz.func41, Tryz.ntmps41
  go_wp2_with fail
  go_ret
  exact ⟨rfl, rfl⟩
set_option maxRecDepth 100000 in
set_option maxHeartbeats 1000000 in
theorem give_fault (b : Nat) (L : Lim) (lv : Value) (k : Nat) (wv : Value) (wanted read used : Nat) (ft : ByteArray) (wd : ByteArray) (hw : wd.toList.isEmpty = false) (w : World) (h : RB b L lv k wv wanted read used ft w) :
    Calls Tryz.prog 41 #[.pointer (some ⟨b, 0, none⟩), .iface 73 (.string wd)] w fun e w' => e = .returned (.int .i64 2) ∧ RB b ⟨0, 0, 0⟩ (.slice none 0 0) 0 (.slice none 0 0) 0 0 used wd w' ∧ Fr (fun q => q = b) w w' := by
  have hc : ∀ i, w.cell? ⟨b, i, none⟩ = _ := fun i => h.cell i
  have d0 := hc 0
  have d1 := hc 1
  have d2 := hc 2
  have d3 := hc 3
  have d4 := hc 4
  have d5 := hc 5
  have d6 := hc 6
  have d7 := hc 7
  have d8 := hc 8
  have d9 := hc 9
  have z : ∀ i, w.frozen? ⟨b, i, none⟩ = false := fun i => h.frozen i
  have z0 := z 0
  have z1 := z 1
  have z2 := z 2
  have z3 := z 3
  have z4 := z 4
  have z5 := z 5
  have z6 := z 6
  have z7 := z 7
  have z8 := z 8
  have z9 := z 9
  have H := hid_of h
  clear h hc z
  have hta := ta
  go_enter Tryz.func41, Tryz.ntmps41
  go_wp2_with fail
  go_ret
  refine ⟨rfl, ?_, fr_ten⟩
  exact set_ten H.out
/- the deferred call -/
theorem catch_idle (p1 p2 p3 : Addr) (w : World) :
    CallsD Tryz.prog 40 #[.pointer (some p1), .pointer (some p2), .pointer (some p3)] .returning w fun e u' w' => e = .returned (.tuple #[]) ∧ u' = .returning ∧ w' = w := by
  refine callsD_of_wpS Tryz.func40 rfl fun c₀ cs hu => ?_
  apply wpS_seq
  apply wpS_region
  simp [wpOpsS, go_sem, recoverD, hu, Tryz.ntmps40, Exit.thenS]
  have e : (#[Value.pointer (some p1), .pointer (some p2), .pointer (some p3)] ++ ((Array.replicate 7 undef).setIfInBounds 1 Value.nilIface).setIfInBounds 0 Value.nilIface) = #[Value.pointer (some p1), .pointer (some p2), .pointer (some p3), .nilIface, .nilIface, undef, undef, undef, undef, undef] := rfl
  rw [e]
  refine wpS_of_wp ?_
  go_wp2_with fail
  cases c₀
  simp_all [bodyPostS, results, Tryz.results40]
theorem catch_any (p1 p2 p3 : Addr) (b : Nat) (wd : ByteArray) (r : Int) (older : List PanicEntry) (w : World) (Q : World → Prop) (h1 : w.cell? p1 = some (.pointer (some ⟨b, 0, none⟩)))
    (hG : Calls Tryz.prog 41 #[.pointer (some ⟨b, 0, none⟩), .iface 73 (.string wd)] w fun e w' => e = .returned (.int .i64 r) ∧ Q w')
    (hQ : ∀ w', Q w' → (∃ x, w'.cell? p2 = some x) ∧ (∃ x, w'.cell? p3 = some x) ∧ w'.frozen? p2 = false ∧ w'.frozen? p3 = false) :
    CallsD Tryz.prog 40 #[.pointer (some p1), .pointer (some p2), .pointer (some p3)] (.panicking ({ v := .iface 73 (.string wd), recovered := false } :: older)) w fun e u' w' => e = .returned (.tuple #[]) ∧ u' = .panicking ({ v := .iface 73 (.string wd), recovered := true } :: older) ∧ ∃ w1, Q w1 ∧ w' = (w1.setCell p2 (.slice none 0 0)).setCell p3 (.int .i64 r) := by
  refine callsD_of_wpS Tryz.func40 rfl fun c₀ cs hu => ?_
  apply wpS_seq
  apply wpS_region
  simp [wpOpsS, go_sem, recoverD, hu, Tryz.ntmps40, Exit.thenS]
  have e : (#[Value.pointer (some p1), .pointer (some p2), .pointer (some p3)] ++ ((Array.replicate 7 undef).setIfInBounds 1 (Value.iface 73 (.string wd))).setIfInBounds 0 (Value.iface 73 (.string wd))) = #[Value.pointer (some p1), .pointer (some p2), .pointer (some p3), .iface 73 (.string wd), .iface 73 (.string wd), undef, undef, undef, undef, undef] := rfl
  rw [e]
  refine wpS_of_wp ?_
  have HG := hid_of hG
  clear hG hu
  go_wp2_with fail
  refine HG.out.mono ?_
  rintro e w1 ⟨rfl, hq⟩
  obtain ⟨⟨x2, c2⟩, ⟨x3, c3⟩, f2, f3⟩ := hQ w1 hq
  have HQ := hid_of hq
  have hsome : ∃ x, (w1.setCell p2 (.slice none 0 0)).cell? p3 = some x := by
    obtain ⟨y, hy⟩ := cell?_setCell_some (w := w1) (p := p2) (x := .slice none 0 0) (q := p3) (v := x3) c3
    exact ⟨y, hy⟩
  obtain ⟨x3', c3'⟩ := hsome
  clear hq c3
  go_wp2_with fail
  exact ⟨rfl, _, rfl, .tuple #[], by simp [results, Tryz.results40], rfl, rfl, w1, HQ.out, rfl⟩
end Go.Proofs.YtfkilbhhpipjbaaGreatDoor.Req
