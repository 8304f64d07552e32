/- A thing, and the next request. -/
import Derived.Test.YtfkilbhhpipjbaaGreatDoorFirst
namespace Go.Proofs.YtfkilbhhpipjbaaGreatDoor.Thing
open Go.RowKit
open Go.Proofs.YtfkilbhhpipjbaaGreatDoor.TextMath
open Go.Proofs.YtfkilbhhpipjbaaGreatDoor.ReqMath
open Go.Proofs.YtfkilbhhpipjbaaGreatDoor.Base
open Go.Proofs.YtfkilbhhpipjbaaGreatDoor.Line
open Go.Proofs.YtfkilbhhpipjbaaGreatDoor.Small
open Go.Proofs.YtfkilbhhpipjbaaGreatDoor.Append
open Go.Proofs.YtfkilbhhpipjbaaGreatDoor.Bulk
open Go.Proofs.YtfkilbhhpipjbaaGreatDoor.Bulk2
open Go.Proofs.YtfkilbhhpipjbaaGreatDoor.BulkAny
open Go.Proofs.YtfkilbhhpipjbaaGreatDoor.SplitC
open Go.Proofs.YtfkilbhhpipjbaaGreatDoor.Typed
open Go.Proofs.YtfkilbhhpipjbaaGreatDoor.First
set_option linter.unusedVariables false

theorem add_zero_tr (r : TR) : r.add 0 = r := by cases r <;> simp [TR.add]
theorem add_add_tr (a b : Nat) (r : TR) : (r.add b).add a = r.add (a + b) := by cases r <;> simp [TR.add, Nat.add_assoc]
/- the bulks that are to come: what they come to is what the rest comes to -/
def ARel (L : Lim) (wanted : Nat) (ws : List (List UInt8)) (l : List UInt8) (wanted' : Nat) (ws' : List (List UInt8)) (l' : List UInt8) (n : Nat) : Prop :=
  l' = l.drop n ∧ n ≤ l.length ∧ ∀ u, arrS L wanted ws (l ++ u) = (arrS L wanted' ws' (l' ++ u)).add n
theorem arel_refl (L : Lim) (wanted : Nat) (ws : List (List UInt8)) (l : List UInt8) : ARel L wanted ws l wanted ws l 0 := ⟨rfl, Nat.zero_le _, fun u => (add_zero_tr _).symm⟩
theorem arel_step {L : Lim} {wanted : Nat} {ws : List (List UInt8)} {l : List UInt8} {wd : Nat} {ws' : List (List UInt8)} {l' : List UInt8} {n m : Nat} {x : List UInt8} (h : ARel L wanted ws l (wd + 1) ws' l' n) (hb : bulkS L l' = .done m x) : ARel L wanted ws l wd (ws' ++ [x]) (l'.drop m) (n + m) := by
  obtain ⟨h1, h2, h3⟩ := h
  obtain ⟨q1, q2, _⟩ := bulk_done hb []
  refine ⟨by rw [h1, List.drop_drop], by rw [h1, List.length_drop] at q2; omega, fun u => ?_⟩
  rw [h3 u]
  obtain ⟨_, _, q3⟩ := bulk_done hb u
  have e : arrS L (wd + 1) ws' (l' ++ u) = (arrS L wd (ws' ++ [x]) ((l' ++ u).drop m)).add m := by
    rw [arrS, q3]
  rw [e, add_add_tr, List.drop_append_of_le_length q2]
def ThEnd (b : Nat) (L : Lim) (lv : Value) (t : ByteArray) (wv : Value) (ws : List (List UInt8)) (wanted read used : Nat) (w : World) (e : Ending) (w' : World) : TR → Prop
  | .more => e = gaveUp [] ∧ ∃ lv' t' k' wv' ws' wanted' n, RS b L lv' t' k' wv' ws' wanted' (read + n) used w' ∧ ARel L wanted ws (bs t) wanted' ws' (bs t') n ∧ (∀ g, slBlock lv' = some g → slBlock lv = some g) ∧ (∀ g, wv'.ownBlock = some g → wv.ownBlock = some g ∨ w.heap.size ≤ g) ∧ wanted' ≤ wanted ∧ 1 ≤ wanted' ∧ ws'.length + wanted' = ws.length + wanted ∧ Fr (FB b wv) w w'
  | .fault wd => e = gaveUp wd ∧ ∃ lv' k' wv' wanted' read', RB b L lv' k' wv' wanted' read' used ⟨#[]⟩ w' ∧ Fr (FB b wv) w w'
  | .done n ws' => e = .returned (.tuple #[]) ∧ n ≤ t.size ∧ ∃ lv' k' wv', RS b L lv' (t.extract n t.size) k' wv' ws' 0 0 (used + read + n) w' ∧ (∀ g, slBlock lv' = some g → slBlock lv = some g) ∧ (∀ g, wv'.ownBlock = some g → wv.ownBlock = some g ∨ w.heap.size ≤ g) ∧ Fr (FB b wv) w w'
theorem fb_go {b : Nat} {wv wv' : Value} {w w1 w2 : World} (h : Fr (FB b wv) w w1) (hw : ∀ g, wv'.ownBlock = some g → wv.ownBlock = some g ∨ w.heap.size ≤ g) (k : Fr (FB b wv') w1 w2) : Fr (FB b wv) w w2 := h.go k (by
  rintro x (hx | hx)
  · exact Or.inl (Or.inl hx)
  · exact (hw x hx).elim (fun q => Or.inl (Or.inr q)) Or.inr)
theorem has_fb {b : Nat} {wv : Value} {w w1 : World} {ws : List (List UInt8)} (hh : Has w) (hb8 : 8 ≤ b) (hw : WS w wv ws) (h : Fr (FB b wv) w w1) : Has w1 := hh.fr h (by
  rintro x (hx | hx)
  · omega
  · exact (World.ownsRow.lt hw x hx).1)
set_option maxHeartbeats 4000000 in
set_option maxRecDepth 100000 in
theorem arr_call (b : Nat) (L : Lim) (lv : Value) (t : ByteArray) (k : Nat) (wv : Value) (ws : List (List UInt8)) (wanted read used : Nat) (w : World) (hL : Lok L) (h : RS b L lv t k wv ws wanted read used w) (hd : Bd t ws wanted read used) (hwd : ws.length + wanted ≤ 67108864) (hw1 : 1 ≤ wanted) (hh : Has w) (hb8 : 8 ≤ b) :
    Calls Tryz.prog 54 #[.pointer (some ⟨b, 0, none⟩)] w fun e w' => ThEnd b L lv t wv ws wanted read used w e w' (arrS L wanted ws (bs t)) := by
  have c6 : w.cell? ⟨b, 6, none⟩ = _ := h.rb.cell 6
  have g1 : ((wanted : Int) == 0) = false := by rw [beq_eq_false_iff_ne]; omega
  have HS := hid_of h
  have HD := hid_of hd
  have HH := hid_of hh
  have HP : Hid (∀ e w', ThEnd b L lv t wv ws wanted read used w e w' (arrS L wanted ws (bs t)) → ThEnd b L lv t wv ws wanted read used w e w' (arrS L wanted ws (bs t))) := fun e w' h => h
  clear h hd hh
  go_enter Tryz.func54, Tryz.ntmps54
  go_wp2_with fail
  go_loopg [] wanted (fun g wx => ∃ lv' t' k' wv' ws' n, Hid (RS b L lv' t' k' wv' ws' g (read + n) used wx ∧ ARel L wanted ws (bs t) g ws' (bs t') n ∧ (∀ g, slBlock lv' = some g → slBlock lv = some g) ∧ (∀ g, wv'.ownBlock = some g → wv.ownBlock = some g ∨ w.heap.size ≤ g) ∧ g ≤ wanted ∧ ws'.length + g = ws.length + wanted ∧ Fr (FB b wv) w wx))
  case atStart => exact ⟨lv, t, k, wv, ws, 0, ⟨HS.out, arel_refl _ _ _ _, fun g h => h, fun g h => Or.inl h, Nat.le_refl _, rfl, Fr.refl _ _⟩⟩
  case round =>
    obtain ⟨lv', t', k', wv', ws', n, HR⟩ := hrel
    have hbd : Bd t' ws' gk (read + n) used := by
      obtain ⟨q1, q2, q3, q4, q5⟩ := HD.out
      obtain ⟨_, ⟨a1, a2, _⟩, _, _, a3, a4, _⟩ := HR.out
      have hz : t'.size = t.size - n := by rw [← len_bs, a1, List.length_drop, len_bs]
      rw [len_bs] at a2
      exact ⟨by omega, by omega, by omega, by omega, by omega⟩
    have r6 : wr.cell? ⟨b, 6, none⟩ = _ := HR.out.1.rb.cell 6
    by_cases hg : gk = 0
    · subst hg
      have r7 : wr.cell? ⟨b, 7, none⟩ = _ := HR.out.1.rb.cell 7
      have r8 : wr.cell? ⟨b, 8, none⟩ = _ := HR.out.1.rb.cell 8
      have z7 : wr.frozen? ⟨b, 7, none⟩ = false := HR.out.1.rb.frozen 7
      have z8 : wr.frozen? ⟨b, 8, none⟩ = false := HR.out.1.rb.frozen 8
      have ew : IntKind.i64.wrap ((used : Int) + ((read + n : Nat) : Int)) = (used : Int) + ((read + n : Nat) : Int) := by
        have := hbd.hused
        exact IntWalk.i64_in _ (by omega)
      have HRN : Hid ((used : Int) + ((read + n : Nat) : Int) = ((used + read + n : Nat) : Int)) := by show _ = _; omega
      clear hbd
      generalize hrn : read + n = rn at r7 ew HRN HR
      have HRN2 := hid_of hrn
      clear hrn
      go_wp2_with fail
      go_region
      all_goals
        go_wp2_with fail
        go_end0
        refine HP.out _ _ ?_
        have har : arrS L wanted ws (bs t) = .done n ws' := by
          have := HR.out.2.1.2.2 []
          rw [List.append_nil] at this
          rw [this]
          show (TR.done 0 ws').add n = _
          rfl
        rw [har]
        have hte : t' = t.extract n t.size := of_bs (by rw [ext_from]; exact HR.out.2.1.1)
        have hnl : n ≤ t.size := by have := HR.out.2.1.2.1; rwa [len_bs] at this
        rw [HRN.out]
        have F1 : Fr (fun q => q = b) wr (((wr.setCell ⟨b, 8, none⟩ (.int .i64 ((used + read + n : Nat) : Int))).setCell ⟨b, 7, none⟩ (.int .i64 0)).drew) := ((((Fr.refl _ wr).one _).one _).drew)
        refine ⟨rfl, hnl, lv', k', wv', ?_, HR.out.2.2.1, HR.out.2.2.2.1, fb_go HR.out.2.2.2.2.2.2 HR.out.2.2.2.1 (wide1 F1)⟩
        rw [← hte]
        exact rs_one HR.out.1 F1 (set_at (set_at HR.out.1.rb (.int .i64 ((used + read + n : Nat) : Int))) (.int .i64 0)) HR.out.1.kl HR.out.1.kn
    · obtain ⟨g', rfl⟩ : ∃ g', gk = g' + 1 := ⟨gk - 1, by omega⟩
      have g2 : (0 : Int) < ((g' + 1 : Nat) : Int) := by omega
      have HB := hid_of (bulk_any b L lv' t' k' wv' ws' (g' + 1) (read + n) used wr hL HR.out.1 hbd (by omega) (has_fb HH.out hb8 HS.out.wk HR.out.2.2.2.2.2.2) hb8)
      have HBD := hid_of hbd
      clear hbd hg
      go_wp2_with fail
      refine HB.out.mono ?_
      rintro e w1 hE
      have har := HR.out.2.1.2.2 []
      rw [List.append_nil, List.append_nil] at har
      cases hbk : bulkS L (bs t') with
      | more =>
        rw [hbk] at hE
        obtain ⟨rfl, k2, rs2, fr2⟩ := hE
        have e1 : arrS L wanted ws (bs t) = .more := by rw [har, arrS, hbk]; rfl
        refine ⟨rfl, HP.out _ _ ?_⟩
        rw [e1]
        exact ⟨rfl, lv', t', k2, wv', ws', g' + 1, n, rs2, HR.out.2.1, HR.out.2.2.1, HR.out.2.2.2.1, HR.out.2.2.2.2.1, by omega, HR.out.2.2.2.2.2.1, fb_go HR.out.2.2.2.2.2.2 HR.out.2.2.2.1 fr2⟩
      | fault wd =>
        rw [hbk] at hE
        obtain ⟨rfl, rb2, fr2⟩ := hE
        have e1 : arrS L wanted ws (bs t) = .fault wd := by rw [har, arrS, hbk]; rfl
        refine ⟨rfl, HP.out _ _ ?_⟩
        rw [e1]
        exact ⟨rfl, lv', k', wv', g' + 1, read + n, rb2, fb_go HR.out.2.2.2.2.2.2 HR.out.2.2.2.1 fr2⟩
      | done m x =>
        rw [hbk] at hE
        obtain ⟨rfl, hm, lv2, wv2, rs2, sb2, wb2, fr2⟩ := hE
        have HE := hid_of (And.intro rs2 (And.intro sb2 (And.intro wb2 (And.intro fr2 hbk))))
        clear rs2 sb2 wb2 fr2 hbk har
        go_wp2_with fail
        go_roundg g'
        case measure => omega
        case rel =>
          obtain ⟨rs2, sb2, wb2, fr2, hbk⟩ := HE.out
          have h5 := arel_step HR.out.2.1 hbk
          refine ⟨lv2, t'.extract m t'.size, 0, wv2, ws' ++ [x], n + m, ⟨?_, ?_, fun g hg => HR.out.2.2.1 g (sb2 g hg), ?_, ?_, ?_, fb_go HR.out.2.2.2.2.2.2 HR.out.2.2.2.1 fr2⟩⟩
          · have e2 : read + (n + m) = read + n + m := by omega
            rw [e2]
            exact rs2
          · rw [ext_from]; exact h5
          · intro g hg
            rcases wb2 g hg with q | q
            · exact HR.out.2.2.2.1 g q
            · exact Or.inr (Nat.le_trans HR.out.2.2.2.2.2.2.size q)
          · have := HR.out.2.2.2.2.1; omega
          · have := HR.out.2.2.2.2.2.1
            rw [List.length_append, List.length_singleton]
            omega
end Go.Proofs.YtfkilbhhpipjbaaGreatDoor.Thing
