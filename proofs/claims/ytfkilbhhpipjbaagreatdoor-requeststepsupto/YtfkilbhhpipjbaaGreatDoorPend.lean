/- A thing, from whatever is pending. -/
import Derived.Test.YtfkilbhhpipjbaaGreatDoorThing
namespace Go.Proofs.YtfkilbhhpipjbaaGreatDoor.Pend
open Go.RowKit
open Go.Proofs.YtfkilbhhpipjbaaGreatDoor.TextMath
open Go.Proofs.YtfkilbhhpipjbaaGreatDoor.ReqMath
open Go.Proofs.YtfkilbhhpipjbaaGreatDoor.Base
open Go.Proofs.YtfkilbhhpipjbaaGreatDoor.Line
open Go.Proofs.YtfkilbhhpipjbaaGreatDoor.Small
open Go.Proofs.YtfkilbhhpipjbaaGreatDoor.Append
open Go.Proofs.YtfkilbhhpipjbaaGreatDoor.Bulk
open Go.Proofs.YtfkilbhhpipjbaaGreatDoor.Bulk2
open Go.Proofs.YtfkilbhhpipjbaaGreatDoor.BulkAny
open Go.Proofs.YtfkilbhhpipjbaaGreatDoor.SplitC
open Go.Proofs.YtfkilbhhpipjbaaGreatDoor.Typed
open Go.Proofs.YtfkilbhhpipjbaaGreatDoor.First
open Go.Proofs.YtfkilbhhpipjbaaGreatDoor.Thing
set_option linter.unusedVariables false

/- a reader to which the bytes P were fed behind what was used -/
def PS (b : Nat) (L : Lim) (P : List UInt8) (used : Nat) (lv wv : Value) (w : World) : Prop :=
  ∃ t k ws wanted read, RS b L lv t k wv ws wanted read used w ∧ read ≤ P.length ∧ bs t = P.drop read ∧ ((wanted = 0 ∧ ws = [] ∧ read = 0) ∨ (1 ≤ wanted ∧ ∀ u, thingS L (P ++ u) = (arrS L wanted ws (P.drop read ++ u)).add read)) ∧ ws.length + wanted ≤ 65536
def TE (b : Nat) (L : Lim) (P : List UInt8) (used : Nat) (lv wv : Value) (w : World) (e : Ending) (w' : World) : TR → Prop
  | .more => e = gaveUp [] ∧ ∃ lv' wv', PS b L P used lv' wv' w' ∧ (∀ g, slBlock lv' = some g → slBlock lv = some g) ∧ (∀ g, wv'.ownBlock = some g → wv.ownBlock = some g ∨ w.heap.size ≤ g) ∧ Fr (FB b wv) w w'
  | .fault wd => e = gaveUp wd ∧ ∃ lv' k' wv' wanted' read', RB b L lv' k' wv' wanted' read' used ⟨#[]⟩ w' ∧ Fr (FB b wv) w w'
  | .done n ws => e = .returned (.tuple #[]) ∧ 0 < n ∧ n ≤ P.length ∧ ∃ lv' t' k' wv', RS b L lv' t' k' wv' ws 0 0 (used + n) w' ∧ bs t' = P.drop n ∧ (∀ g, slBlock lv' = some g → slBlock lv = some g) ∧ (∀ g, wv'.ownBlock = some g → wv.ownBlock = some g ∨ w.heap.size ≤ g) ∧ Fr (FB b wv) w w'
/- from what the bulks come to, to what the thing comes to -/
theorem th_te {b : Nat} {L : Lim} {P : List UInt8} {used : Nat} {lv lv1 wv wv1 : Value} {t1 : ByteArray} {ws : List (List UInt8)} {wanted read : Nat} {w w1 : World} (hrd : read ≤ P.length) (ht : bs t1 = P.drop read) (hw1 : 1 ≤ wanted ∨ thingS L P ≠ .more) (hth : ∀ u, thingS L (P ++ u) = (arrS L wanted ws (P.drop read ++ u)).add read) (hle : ws.length + wanted ≤ 65536)
    (hsub : ∀ g, slBlock lv1 = some g → slBlock lv = some g) (hown : ∀ g, wv1.ownBlock = some g → wv.ownBlock = some g ∨ w.heap.size ≤ g) (hfr : Fr (FB b wv) w w1) {e : Ending} {w' : World} (h : ThEnd b L lv1 t1 wv1 ws wanted read used w1 e w' (arrS L wanted ws (bs t1))) : TE b L P used lv wv w e w' (thingS L P) := by
  have h0 := hth []
  rw [List.append_nil, List.append_nil, ← ht] at h0
  cases ha : arrS L wanted ws (bs t1) with
  | more =>
    rw [ha] at h h0
    rw [h0]
    obtain ⟨he, lv', t', k', wv', ws', wanted', n, q1, q2, q3, q4, q5, q6, q7, q8⟩ := h
    refine ⟨he, lv', wv', ⟨t', k', ws', wanted', read + n, q1, ?_, ?_, Or.inr ⟨q6, fun u => ?_⟩, by omega⟩, fun g hg => hsub g (q3 g hg), ?_, fb_go hfr hown q8⟩
    · have := q2.2.1
      rw [ht, List.length_drop] at this
      omega
    · rw [q2.1, ht, List.drop_drop]
    · rw [hth u, ← ht, q2.2.2 u, add_add_tr, q2.1, ht, List.drop_drop]
    · intro g hg
      rcases q4 g hg with q | q
      · exact hown g q
      · exact Or.inr (Nat.le_trans hfr.size q)
  | fault wd =>
    rw [ha] at h h0
    rw [h0]
    obtain ⟨he, lv', k', wv', wanted', read', q1, q2⟩ := h
    exact ⟨he, lv', k', wv', wanted', read', q1, fb_go hfr hown q2⟩
  | done n ws' =>
    rw [ha] at h h0
    have hpos := thing_done h0 []
    rw [h0]
    obtain ⟨he, hn, lv', k', wv', q1, q2, q3, q4⟩ := h
    have hz : t1.size = P.length - read := by rw [← len_bs, ht, List.length_drop]
    refine ⟨he, hpos.1, hpos.2.1, lv', t1.extract n t1.size, k', wv', ?_, ?_, fun g hg => hsub g (q2 g hg), ?_, fb_go hfr hown q4⟩
    · have e1 : used + read + n = used + (read + n) := by omega
      rw [← e1]
      exact q1
    · rw [ext_from, ht, List.drop_drop]
    · intro g hg
      rcases q3 g hg with q | q
      · exact hown g q
      · exact Or.inr (Nat.le_trans hfr.size q)
set_option maxHeartbeats 8000000 in
set_option maxRecDepth 100000 in
theorem thing_call (b : Nat) (L : Lim) (P : List UInt8) (used : Nat) (lv wv : Value) (w : World) (hL : Lok L) (hp : PS b L P used lv wv w) (hz : used + P.length ≤ 67108864) (hh : Has w) (hb8 : 8 ≤ b) (hC : C34 P) :
    Calls Tryz.prog 54 #[.pointer (some ⟨b, 0, none⟩)] w fun e w' => TE b L P used lv wv w e w' (thingS L P) := by
  obtain ⟨t, k, ws, wanted, read, h, hrd, ht, hcase, hle⟩ := hp
  have htz : t.size = P.length - read := by rw [← len_bs, ht, List.length_drop]
  have hbd : Bd t ws wanted read used := ⟨by omega, by omega, by omega, by omega, by omega⟩
  rcases hcase with ⟨rfl, rfl, rfl⟩ | ⟨hw1, hth⟩
  · rw [List.drop_zero] at ht
    have c6 : w.cell? ⟨b, 6, none⟩ = _ := h.rb.cell 6
    have H1 := hid_of (first_call b L lv t k wv 0 used w hL h hbd hh hb8 (by rw [ht]; exact hC))
    have hfs := thing_first L P
    rw [ht] at H1
    have HS0 := hid_of h
    have HH0 := hid_of hh
    have HT := hid_of ht
    have hPd : ∀ (n : Nat), bs (t.extract n t.size) = P.drop n := fun n => by rw [ext_from, ht]
    have hxz : ∀ n, (t.extract n t.size).size = t.size - n := fun n => ext_size _ _ _ (Nat.le_refl _)
    have hline : ∀ n kk, firstR L P = .arr n kk → ∀ u, thingS L (P ++ u) = (arrS L kk [] (P.drop n ++ u)).add n := by
      intro n kk hf u
      have hlg : ∃ x, lineS L.line P = .got x n ∧ textR L x n = .arr n kk := by
        unfold firstR at hf
        cases hl : lineS L.line P with
        | more => rw [hl] at hf; cases hf
        | long => rw [hl] at hf; cases hf
        | got x m =>
          rw [hl] at hf
          dsimp only at hf
          have hf' := hf
          unfold textR at hf
          split at hf
          · split at hf
            · cases hf
            · cases hf; exact ⟨x, rfl, hf'⟩
          · split at hf
            · cases hf
            · cases hf
      obtain ⟨x, hx, hxt⟩ := hlg
      obtain ⟨q1, q2, q3⟩ := line_got_app hx u
      rw [thing_first]
      unfold firstR
      rw [q3]
      dsimp only
      rw [hxt]
      dsimp only
      rw [List.drop_append_of_le_length q2]
    have HLN := hid_of hline
    clear h ht hbd hh hC hline
    cases hf : firstR L P with
    | more =>
      rw [hf] at H1 hfs
      rw [hfs]
      clear hfs hf
      go_enter Tryz.func54, Tryz.ntmps54
      go_wp2_with fail
      refine H1.out.mono ?_
      rintro e w1 ⟨rfl, k', r1, f1⟩
      refine ⟨rfl, rfl, lv, wv, ⟨t, k', [], 0, 0, r1, Nat.zero_le _, by rw [List.drop_zero]; exact HT.out, Or.inl ⟨rfl, rfl, rfl⟩, by simp⟩, fun g h => h, fun g h => Or.inl h, f1⟩
    | fault wd =>
      rw [hf] at H1 hfs
      rw [hfs]
      clear hfs hf
      go_enter Tryz.func54, Tryz.ntmps54
      go_wp2_with fail
      refine H1.out.mono ?_
      rintro e w1 ⟨rfl, r1, f1⟩
      exact ⟨rfl, rfl, lv, k, wv, 0, 0, r1, f1⟩
    | arr n kk =>
      rw [hf] at H1
      have HL2 := hid_of (HLN.out n kk hf)
      clear hfs hf HLN
      go_enter Tryz.func54, Tryz.ntmps54
      go_wp2_with fail
      refine H1.out.mono ?_
      rintro e w1 ⟨rfl, hn0, hnl, hkk, lv1, r1, sb1, f1⟩
      have hargs := hL.args.2
      have HS := hid_of r1
      have HH : Hid (Has w1) := has_fb HH0.out hb8 HS0.out.wk f1
      have HD : Hid (Bd (t.extract n t.size) [] kk (0 + n) used) := by
        have h1 := hxz n
        exact ⟨by omega, by simp, by omega, by omega, by omega⟩
      have HP : Hid (∀ e w', ThEnd b L lv1 (t.extract n t.size) wv [] kk (0 + n) used w1 e w' (arrS L kk [] (bs (t.extract n t.size))) → TE b L P used lv wv w e w' (thingS L P)) := by
        intro e w' hE
        rw [Nat.zero_add] at hE
        refine th_te (by omega) (hPd n) ?_ HL2.out (by simp; omega) sb1 (fun g h => Or.inl h) f1 hE
        by_cases hk0 : 1 ≤ kk
        · exact Or.inl hk0
        · refine Or.inr ?_
          have h0 := HL2.out []
          obtain rfl : kk = 0 := by omega
          rw [List.append_nil] at h0
          rw [h0]
          intro hx
          cases hx
      have hwd : ([] : List (List UInt8)).length + kk ≤ 67108864 := by simp; omega
      generalize hT1 : t.extract n t.size = T1 at HS HD HP
      generalize hrn : 0 + n = rd1 at HS HD HP
      clear r1 f1 sb1 hT1 hrn HL2
      go_wp2_with fail
      go_loopg [] kk (fun g wx => ∃ lv' t' k' wv' ws' n, Hid (RS b L lv' t' k' wv' ws' g (rd1 + n) used wx ∧ ARel L kk ([] : List (List UInt8)) (bs T1) g ws' (bs t') n ∧ (∀ g, slBlock lv' = some g → slBlock lv1 = some g) ∧ (∀ g, wv'.ownBlock = some g → wv.ownBlock = some g ∨ w1.heap.size ≤ g) ∧ g ≤ kk ∧ ws'.length + g = ([] : List (List UInt8)).length + kk ∧ Fr (FB b wv) w1 wx))
      case atStart => exact ⟨lv1, T1, 0, wv, ([] : List (List UInt8)), 0, ⟨HS.out, arel_refl _ _ _ _, fun g h => h, fun g h => Or.inl h, Nat.le_refl _, rfl, Fr.refl _ _⟩⟩
      case round =>
        obtain ⟨lv', t', k', wv', ws', n, HR⟩ := hrel
        have hbd : Bd t' ws' gk (rd1 + n) used := by
          obtain ⟨q1, q2, q3, q4, q5⟩ := HD.out
          obtain ⟨_, ⟨a1, a2, _⟩, _, _, a3, a4, _⟩ := HR.out
          have hz : t'.size = T1.size - n := by rw [← len_bs, a1, List.length_drop, len_bs]
          rw [len_bs] at a2
          exact ⟨by omega, by omega, by omega, by omega, by omega⟩
        have r6 : wr.cell? ⟨b, 6, none⟩ = _ := HR.out.1.rb.cell 6
        by_cases hg : gk = 0
        · subst hg
          have r7 : wr.cell? ⟨b, 7, none⟩ = _ := HR.out.1.rb.cell 7
          have r8 : wr.cell? ⟨b, 8, none⟩ = _ := HR.out.1.rb.cell 8
          have z7 : wr.frozen? ⟨b, 7, none⟩ = false := HR.out.1.rb.frozen 7
          have z8 : wr.frozen? ⟨b, 8, none⟩ = false := HR.out.1.rb.frozen 8
          have ew : IntKind.i64.wrap ((used : Int) + ((rd1 + n : Nat) : Int)) = (used : Int) + ((rd1 + n : Nat) : Int) := by
            have := hbd.hused
            exact IntWalk.i64_in _ (by omega)
          have HRN : Hid ((used : Int) + ((rd1 + n : Nat) : Int) = ((used + rd1 + n : Nat) : Int)) := by show _ = _; omega
          clear hbd
          generalize hrn : rd1 + n = rn at r7 ew HRN HR
          have HRN2 := hid_of hrn
          clear hrn
          go_wp2_with fail
          go_region
          all_goals
            go_wp2_with fail
            go_end0
            refine HP.out _ _ ?_
            have har : arrS L kk ([] : List (List UInt8)) (bs T1) = .done n ws' := by
              have := HR.out.2.1.2.2 []
              rw [List.append_nil] at this
              rw [this]
              show (TR.done 0 ws').add n = _
              rfl
            rw [har]
            have hte : t' = T1.extract n T1.size := of_bs (by rw [ext_from]; exact HR.out.2.1.1)
            have hnl : n ≤ T1.size := by have := HR.out.2.1.2.1; rwa [len_bs] at this
            rw [HRN.out]
            have F1 : Fr (fun q => q = b) wr (((wr.setCell ⟨b, 8, none⟩ (.int .i64 ((used + rd1 + n : Nat) : Int))).setCell ⟨b, 7, none⟩ (.int .i64 0)).drew) := ((((Fr.refl _ wr).one _).one _).drew)
            refine ⟨rfl, hnl, lv', k', wv', ?_, HR.out.2.2.1, HR.out.2.2.2.1, fb_go HR.out.2.2.2.2.2.2 HR.out.2.2.2.1 (wide1 F1)⟩
            rw [← hte]
            exact rs_one HR.out.1 F1 (set_at (set_at HR.out.1.rb (.int .i64 ((used + rd1 + n : Nat) : Int))) (.int .i64 0)) HR.out.1.kl HR.out.1.kn
        · obtain ⟨g', rfl⟩ : ∃ g', gk = g' + 1 := ⟨gk - 1, by omega⟩
          have g2 : (0 : Int) < ((g' + 1 : Nat) : Int) := by omega
          have HB := hid_of (bulk_any b L lv' t' k' wv' ws' (g' + 1) (rd1 + n) used wr hL HR.out.1 hbd (by omega) (has_fb HH.out hb8 HS.out.wk HR.out.2.2.2.2.2.2) hb8)
          have HBD := hid_of hbd
          clear hbd hg
          go_wp2_with fail
          refine HB.out.mono ?_
          rintro e w1 hE
          have har := HR.out.2.1.2.2 []
          rw [List.append_nil, List.append_nil] at har
          cases hbk : bulkS L (bs t') with
          | more =>
            rw [hbk] at hE
            obtain ⟨rfl, k2, rs2, fr2⟩ := hE
            have e1 : arrS L kk ([] : List (List UInt8)) (bs T1) = .more := by rw [har, arrS, hbk]; rfl
            refine ⟨rfl, HP.out _ _ ?_⟩
            rw [e1]
            exact ⟨rfl, lv', t', k2, wv', ws', g' + 1, n, rs2, HR.out.2.1, HR.out.2.2.1, HR.out.2.2.2.1, HR.out.2.2.2.2.1, by omega, HR.out.2.2.2.2.2.1, fb_go HR.out.2.2.2.2.2.2 HR.out.2.2.2.1 fr2⟩
          | fault wd =>
            rw [hbk] at hE
            obtain ⟨rfl, rb2, fr2⟩ := hE
            have e1 : arrS L kk ([] : List (List UInt8)) (bs T1) = .fault wd := by rw [har, arrS, hbk]; rfl
            refine ⟨rfl, HP.out _ _ ?_⟩
            rw [e1]
            exact ⟨rfl, lv', k', wv', g' + 1, rd1 + n, rb2, fb_go HR.out.2.2.2.2.2.2 HR.out.2.2.2.1 fr2⟩
          | done m x =>
            rw [hbk] at hE
            obtain ⟨rfl, hm, lv2, wv2, rs2, sb2, wb2, fr2⟩ := hE
            have HE := hid_of (And.intro rs2 (And.intro sb2 (And.intro wb2 (And.intro fr2 hbk))))
            clear rs2 sb2 wb2 fr2 hbk har
            go_wp2_with fail
            go_roundg g'
            case measure => omega
            case rel =>
              obtain ⟨rs2, sb2, wb2, fr2, hbk⟩ := HE.out
              have h5 := arel_step HR.out.2.1 hbk
              refine ⟨lv2, t'.extract m t'.size, 0, wv2, ws' ++ [x], n + m, ⟨?_, ?_, fun g hg => HR.out.2.2.1 g (sb2 g hg), ?_, ?_, ?_, fb_go HR.out.2.2.2.2.2.2 HR.out.2.2.2.1 fr2⟩⟩
              · have e2 : rd1 + (n + m) = rd1 + n + m := by omega
                rw [e2]
                exact rs2
              · rw [ext_from]; exact h5
              · intro g hg
                rcases wb2 g hg with q | q
                · exact HR.out.2.2.2.1 g q
                · exact Or.inr (Nat.le_trans HR.out.2.2.2.2.2.2.size q)
              · have := HR.out.2.2.2.2.1; omega
              · have := HR.out.2.2.2.2.2.1
                rw [List.length_append, List.length_singleton]
                omega
    | words n ws =>
      rw [hf] at H1 hfs
      clear hf HLN
      go_enter Tryz.func54, Tryz.ntmps54
      go_wp2_with fail
      refine H1.out.mono ?_
      rintro e w1 ⟨rfl, hn0, hnl, lv1, wv1, r1, sb1, ob1, f1⟩
      have r6 : w1.cell? ⟨b, 6, none⟩ = _ := r1.rb.cell 6
      have r7 : w1.cell? ⟨b, 7, none⟩ = _ := r1.rb.cell 7
      have r8 : w1.cell? ⟨b, 8, none⟩ = _ := r1.rb.cell 8
      have z7 : w1.frozen? ⟨b, 7, none⟩ = false := r1.rb.frozen 7
      have z8 : w1.frozen? ⟨b, 8, none⟩ = false := r1.rb.frozen 8
      have HE := hid_of (And.intro r1 (And.intro sb1 (And.intro ob1 f1)))
      have HF := hid_of hfs
      have ew : IntKind.i64.wrap ((used : Int) + ((0 + n : Nat) : Int)) = (used : Int) + ((0 + n : Nat) : Int) := IntWalk.i64_in _ (by omega)
      have HRN : Hid ((used : Int) + ((0 + n : Nat) : Int) = ((used + n : Nat) : Int)) := by show _ = _; omega
      generalize hrn : 0 + n = rn at r7 ew HRN
      have HRN2 := hid_of hrn
      clear r1 f1 sb1 ob1 hrn hfs
      go_wp2_with fail
      go_loopg [] 0 (fun g wx => wx = w1)
      case atStart => rfl
      case round =>
        subst hrel
        go_wp2_with fail
        go_region
        all_goals
          go_wp2_with fail
          go_end0
          rw [HF.out]
          obtain ⟨r1, sb1, ob1, f1⟩ := HE.out
          rw [HRN.out]
          have F1 : Fr (fun q => q = b) wr (((wr.setCell ⟨b, 8, none⟩ (.int .i64 ((used + n : Nat) : Int))).setCell ⟨b, 7, none⟩ (.int .i64 0)).drew) := ((((Fr.refl _ wr).one _).one _).drew)
          refine ⟨rfl, hn0, by omega, lv1, _, 0, wv1, ?_, hPd n, sb1, fun g hg => Or.inr (ob1 g hg), fb_go f1 (fun g hg => Or.inr (ob1 g hg)) (wide1 F1)⟩
          exact rs_one r1 F1 (set_at (set_at r1.rb (.int .i64 ((used + n : Nat) : Int))) (.int .i64 0)) r1.kl r1.kn
  · refine (arr_call b L lv t k wv ws wanted read used w hL h hbd (by omega) hw1 hh hb8).mono ?_
    intro e w' hE
    exact th_te hrd ht (Or.inl hw1) hth hle (fun g h => h) (fun g h => Or.inl h) (Fr.refl _ _) hE
end Go.Proofs.YtfkilbhhpipjbaaGreatDoor.Pend
