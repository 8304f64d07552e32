/- The requests of HashcmdIncrs. -/
import Derived.Test.YtcgdnpcegcmboaaGreatDoorHNew
import Derived.Test.YtcgdnpcegcmboaaGreatDoorHOddM
import Derived.Test.YtcgdnpcegcmboaaGreatDoorRAdd
import Derived.Test.YtcgdnpcegcmboaaGreatDoorRPrintM
namespace Go.Proofs.YtcgdnpcegcmboaaGreatDoor.HIncr
open Go.RowKit Go.Maps
open Go.Proofs.YtcgdnpcegcmboaaGreatDoor.SpaceMath (wout withL lkp keys toD)
open Go.Proofs.YtcgdnpcegcmboaaGreatDoor.ValueMath (Vl chk small)
open Go.Proofs.YtcgdnpcegcmboaaGreatDoor.Base (mk mk_list mk_size Gr hid_of SL)
open Go.Proofs.YtcgdnpcegcmboaaGreatDoor.Turn
open Go.Proofs.YtcgdnpcegcmboaaGreatDoor.Vals
open Go.Proofs.YtcgdnpcegcmboaaGreatDoor.Check0 (Wel)
open Go.Proofs.YtcgdnpcegcmboaaGreatDoor.SBase
open Go.Proofs.YtcgdnpcegcmboaaGreatDoor.SFind
open Go.Proofs.YtcgdnpcegcmboaaGreatDoor.SPut (vO)
open Go.Proofs.YtcgdnpcegcmboaaGreatDoor.QBase
open Go.Proofs.YtcgdnpcegcmboaaGreatDoor.HCmd
open Go.Proofs.YtcgdnpcegcmboaaGreatDoor.DiBase (DK)
open Go.Proofs.YtcgdnpcegcmboaaGreatDoor.Parse (Has)
set_option linter.unusedVariables false
set_option linter.unusedSimpArgs false
open Go.Proofs.YtcgdnpcegcmboaaGreatDoor.HFld
open Go.Proofs.YtcgdnpcegcmboaaGreatDoor.HChg (Lay)
open Go.Proofs.YtcgdnpcegcmboaaGreatDoor.HSet (layF)
open Go.Proofs.YtcgdnpcegcmboaaGreatDoor.HDrop (dropF dropF_len)
open Go.Proofs.YtcgdnpcegcmboaaGreatDoor.HRow (RR rpL)
open Go.Proofs.YtcgdnpcegcmboaaGreatDoor.HMap (fnV cmdL)
open Go.Proofs.YtcgdnpcegcmboaaGreatDoor.Low (low)
open Go.Proofs.YtcgdnpcegcmboaaGreatDoor.RowOf (checkS)
open Go.Lib (itoa)
open Go.Proofs.YtcgdnpcegcmboaaGreatDoor.HDo
open Go.Proofs.YtcgdnpcegcmboaaGreatDoor.HReq
open Go.Proofs.YtcgdnpcegcmboaaGreatDoor.HNew
open Go.Proofs.YtcgdnpcegcmboaaGreatDoor.HLay (hV pH)
open Go.Proofs.YtcgdnpcegcmboaaGreatDoor.DiNumMath (InI fitB)
open Go.Proofs.YtcgdnpcegcmboaaGreatDoor.HInc (ovB)
abbrev SS (c : Nat) (L : FL) : Sp := ⟨[([104], ⟨hV L, 0, c⟩)], c, none⟩
abbrev G1 (A : Bs) : FL := [([102], A)]
abbrev G2 (A B : Bs) : FL := [([102], A), ([103], B)]
theorem roomS {c : Nat} (hc : c ≤ 5) (L : FL) : HCmd.Room (SS c L) := ⟨rfl, by show c + 1 < _; omega, by show 1 + 1 < 1099511627776; decide⟩
theorem flS {c : Nat} (h1 : 1 ≤ c) (hc : c ≤ 5) (L : FL) : flds (SS c L) 0 [104] L := by
  obtain rfl | rfl | rfl | rfl | rfl : c = 1 ∨ c = 2 ∨ c = 3 ∨ c = 4 ∨ c = 5 := by omega
  all_goals exact .inr ⟨_, rfl, rfl, rfl⟩
theorem pH_S {c : Nat} (h1 : 1 ≤ c) (hc : c ≤ 5) (L L' : FL) : pH (SS c L) [104] L' (dueV (SS c L) 0 [104]) = SS (c + 1) L' := by
  obtain rfl | rfl | rfl | rfl | rfl : c = 1 ∨ c = 2 ∨ c = 3 ∨ c = 4 ∨ c = 5 := by omega
  all_goals kernel_rfl
theorem layS {c : Nat} (h1 : 1 ≤ c) (hc : c ≤ 5) (L L' : FL) (fit : Fit L') (h0 : 0 < L'.length) (hn : L'.length < 4294967296) : ∃ c', 1 ≤ c' ∧ c' ≤ c + 1 ∧ Lay (SS c L) 0 [104] L L' (SS c' L') := by
  by_cases h : L = L'
  · subst h; exact ⟨c, h1, by omega, .inl ⟨rfl, rfl⟩⟩
  · exact ⟨c + 1, by omega, Nat.le_refl _, .inr (.inl ⟨h, h0, hn, fit, roomS hc L, (pH_S h1 hc L L').symm⟩)⟩
theorem fitG1 {A : Bs} (hA : A.length ≤ 1048576) : Fit (G1 A) := ⟨List.pairwise_singleton _ _, by show 1 < _; decide, fun p hp => by
  obtain rfl : p = ([102], A) := by simpa using hp
  exact ⟨(by show 1 ≤ 1048576; decide), hA⟩⟩
theorem fitG2 {A B : Bs} (hA : A.length ≤ 1048576) (hB : B.length ≤ 1048576) : Fit (G2 A B) := ⟨.cons (fun p hp => by
    obtain rfl : p = ([103], B) := by simpa using hp
    exact (by decide : ([102] : Bs) < [103])) (List.pairwise_singleton _ _), by show 2 < _; decide, fun p hp => by
  have h : p = ([102], A) ∨ p = ([103], B) := by simpa using hp
  rcases h with rfl | rfl
  · exact ⟨(by show 1 ≤ 1048576; decide), hA⟩
  · exact ⟨(by show 1 ≤ 1048576; decide), hB⟩⟩
theorem prs_itoa {y : Int} (h : InI y) : prs (itoa y) = some y := by
  unfold prs
  rw [TextMath.atoi_itoa y h]
  simp
theorem parsed_itoa {y : Int} (h : InI y) : TextMath.Parsed (itoa y) y 0 := .inl ⟨(TextMath.text_iff _ _).2 ⟨h, rfl⟩, rfl⟩
theorem itoa_bd {y : Int} (h : InI y) : (itoa y).length ≤ 1048576 := Nat.le_trans (DiIncr.itoa_len y h) (by decide)
theorem bl4 {a b c d : Bs} (h1 : a.length ≤ 1048576) (h2 : b.length ≤ 1048576) (h3 : c.length ≤ 1048576) (h4 : d.length ≤ 1048576) : ∀ x ∈ [a, b, c, d], x.length ≤ 1048576 := fun x hx => by
  have h : x = a ∨ x = b ∨ x = c ∨ x = d := by simpa using hx
  rcases h with rfl | rfl | rfl | rfl <;> assumption
theorem rqN {A : Bs} (hA : A.length ≤ 1048576) : Rq [[104, 115, 101, 116, 110, 120], [104], [102], A] 66 := ⟨by kernel_rfl, by simp, by simp, bl4 (by decide) (by decide) (by decide) hA, by kernel_rfl⟩
theorem rqIf {A : Bs} (hA : A.length ≤ 1048576) : Rq [[104, 105, 110, 99, 114, 98, 121], [104], [102], A] 59 := ⟨by kernel_rfl, by simp, by simp, bl4 (by decide) (by decide) (by decide) hA, by kernel_rfl⟩
theorem rqIg {A : Bs} (hA : A.length ≤ 1048576) : Rq [[104, 105, 110, 99, 114, 98, 121], [104], [103], A] 59 := ⟨by kernel_rfl, by simp, by simp, bl4 (by decide) (by decide) (by decide) hA, by kernel_rfl⟩
abbrev lL : List Base.El := [[104, 115, 116, 114, 108, 101, 110], [104], [102]]
abbrev lG : List Base.El := [[104, 103, 101, 116], [104], [102]]
theorem rqL : Rq lL 67 := ⟨by kernel_rfl, by decide, by decide, by decide, by kernel_rfl⟩
theorem rqG : Rq lG 57 := ⟨by kernel_rfl, by decide, by decide, by decide, by kernel_rfl⟩
section
variable {F X : Nat → Prop} {b : Nat} {w : World} {c : Nat} {L : FL} {A : Bs} {q : Nat}
theorem r_new (h : SP F X b w S0) (hA : A.length ≤ 1048576) (hq : w.heap[q]? = some (.cells #[.string ⟨#[104, 115, 101, 116, 110, 120]⟩, .string ⟨#[104]⟩, .string ⟨#[102]⟩, .string (mk A)] 9 (0, 0))) :
    Calls Tryz.prog 21 #[ptr b, .int .i64 0, .slice (some ⟨q, 0, none⟩) 4 4] w fun e w' => e = .returned (rp 3 ⟨#[]⟩ 1) ∧ Dn F X b w w' (SS 1 (G1 A)) := by
  have hl : Lay S0 0 [104] L0 (layF L0 [[102], A]).1 (SS 1 (G1 A)) := by rw [show (layF L0 [[102], A]).1 = G1 A by kernel_rfl]; exact .inr (.inl ⟨(fun h => by cases h), (by show 0 < 1; decide), (by show 1 < 4294967296; decide), fitG1 hA, room0, by kernel_rfl⟩)
  exact run_setNew_no h 0 (by decide) (by decide) (sl_row [[104, 115, 101, 116, 110, 120], [104], [102], A] hq) (rqN hA) (by show 2 < 4; decide) (by show 2 % 2 = 0; decide) (L := L0) fl0 fit0 (by kernel_rfl) hl
theorem r_old {A0 : Bs} (h : SP F X b w (SS c (G1 A0))) (h1 : 1 ≤ c) (hc : c ≤ 5) (hA0 : A0.length ≤ 1048576) (hA : A.length ≤ 1048576) (hq : w.heap[q]? = some (.cells #[.string ⟨#[104, 115, 101, 116, 110, 120]⟩, .string ⟨#[104]⟩, .string ⟨#[102]⟩, .string (mk A)] 9 (0, 0))) :
    Calls Tryz.prog 21 #[ptr b, .int .i64 0, .slice (some ⟨q, 0, none⟩) 4 4] w fun e w' => e = .returned (rp 3 ⟨#[]⟩ 0) ∧ Dn F X b w w' (SS c (G1 A0)) :=
  run_setNew_yes h 0 (by decide) (by decide) (sl_row [[104, 115, 101, 116, 110, 120], [104], [102], A] hq) (rqN hA) (by show 2 < 4; decide) (L := G1 A0) (flS h1 hc _) (fitG1 hA0) (by kernel_rfl)
theorem r_len (h : SP F X b w (SS c (G1 A))) (h1 : 1 ≤ c) (hc : c ≤ 5) (hA : A.length ≤ 1048576) (hq : w.heap[q]? = some (.cells #[.string ⟨#[104, 115, 116, 114, 108, 101, 110]⟩, .string ⟨#[104]⟩, .string ⟨#[102]⟩] 9 (0, 0))) :
    Calls Tryz.prog 21 #[ptr b, .int .i64 0, .slice (some ⟨q, 0, none⟩) 3 3] w fun e w' => e = .returned (rp 3 ⟨#[]⟩ (A.length : Int)) ∧ Dn F X b w w' (SS c (G1 A)) :=
  run_valueLength h 0 (by decide) (by decide) (sl_row lL hq) rqL (by decide) (L := G1 A) (flS h1 hc _) (fitG1 hA) (v := A) (by kernel_rfl) (by omega)
theorem r_get (h : SP F X b w (SS c (G1 A))) (h1 : 1 ≤ c) (hc : c ≤ 5) (hA : A.length ≤ 1048576) (hq : w.heap[q]? = some (.cells #[.string ⟨#[104, 103, 101, 116]⟩, .string ⟨#[104]⟩, .string ⟨#[102]⟩] 9 (0, 0))) :
    Calls Tryz.prog 21 #[ptr b, .int .i64 0, .slice (some ⟨q, 0, none⟩) 3 3] w fun e w' => e = .returned (rp 4 (mk A) 0) ∧ Dn F X b w w' (SS c (G1 A)) :=
  run_get_yes h 0 (by decide) (by decide) (sl_row lG hq) rqG (by decide) (L := G1 A) (flS h1 hc _) (fitG1 hA) (v := A) (by kernel_rfl)
theorem r_over {n y : Int} (h : SP F X b w (SS c (G1 (itoa n)))) (h1 : 1 ≤ c) (hc : c ≤ 5) (hh : Has w) (hn : InI n) (hy : InI y) (hf : fitB (n + y) = false) (hq : w.heap[q]? = some (.cells #[.string ⟨#[104, 105, 110, 99, 114, 98, 121]⟩, .string ⟨#[104]⟩, .string ⟨#[102]⟩, .string (mk (itoa y))] 9 (0, 0))) :
    Calls Tryz.prog 21 #[ptr b, .int .i64 0, .slice (some ⟨q, 0, none⟩) 4 4] w fun e w' => e = .returned (rp 2 ovB 0) ∧ Dn F X b w w' (SS c (G1 (itoa n))) :=
  run_incr_over h 0 (by decide) (by decide) (sl_row [[104, 105, 110, 99, 114, 98, 121], [104], [102], itoa y] hq) (rqIf (itoa_bd hy)) (by show 3 < 4; decide) hh (L := G1 (itoa n)) (flS h1 hc _) (fitG1 (itoa_bd hn)) (y := y) (x := n) (prs_itoa hy) hy (parsed_itoa hn) hf
theorem r_inc {n y s : Int} (h : SP F X b w (SS c (G1 (itoa n)))) (h1 : 1 ≤ c) (hc : c ≤ 5) (hh : Has w) (hn : InI n) (hy : InI y) (hs : InI s) (e : n + y = s) (hq : w.heap[q]? = some (.cells #[.string ⟨#[104, 105, 110, 99, 114, 98, 121]⟩, .string ⟨#[104]⟩, .string ⟨#[102]⟩, .string (mk (itoa y))] 9 (0, 0))) :
    Calls Tryz.prog 21 #[ptr b, .int .i64 0, .slice (some ⟨q, 0, none⟩) 4 4] w fun e w' => e = .returned (rp 3 ⟨#[]⟩ s) ∧ ∃ c', (1 ≤ c' ∧ c' ≤ c + 1) ∧ Dn F X b w w' (SS c' (G1 (itoa s))) := by
  subst e
  obtain ⟨c', a1, a2, hl⟩ := layS h1 hc (G1 (itoa n)) (G1 (itoa (n + y))) (fitG1 (itoa_bd hs)) (by show 0 < 1; decide) (by show 1 < _; decide)
  have hl2 : Lay (SS c (G1 (itoa n))) 0 [104] (G1 (itoa n)) (DiDictMath.withL (G1 (itoa n)) [102] (itoa (n + y))) (SS c' (G1 (itoa (n + y)))) := by rw [show DiDictMath.withL (G1 (itoa n)) [102] (itoa (n + y)) = G1 (itoa (n + y)) by kernel_rfl]; exact hl
  exact (run_incr h 0 (by decide) (by decide) (sl_row [[104, 105, 110, 99, 114, 98, 121], [104], [102], itoa y] hq) (rqIf (itoa_bd hy)) (by show 3 < 4; decide) hh (L := G1 (itoa n)) (flS h1 hc _) (fitG1 (itoa_bd hn)) (y := y) (x := n) (prs_itoa hy) hy (parsed_itoa hn) (decide_eq_true hs) hl2).mono fun e w' ⟨h1, h2⟩ => ⟨h1, c', ⟨a1, a2⟩, h2⟩
theorem r_incg {s y : Int} (h : SP F X b w (SS c (G1 (itoa s)))) (h1 : 1 ≤ c) (hc : c ≤ 5) (hh : Has w) (hs : InI s) (hy : InI y) (hq : w.heap[q]? = some (.cells #[.string ⟨#[104, 105, 110, 99, 114, 98, 121]⟩, .string ⟨#[104]⟩, .string ⟨#[103]⟩, .string (mk (itoa y))] 9 (0, 0))) :
    Calls Tryz.prog 21 #[ptr b, .int .i64 0, .slice (some ⟨q, 0, none⟩) 4 4] w fun e w' => e = .returned (rp 3 ⟨#[]⟩ y) ∧ ∃ c', (1 ≤ c' ∧ c' ≤ c + 1) ∧ Dn F X b w w' (SS c' (G2 (itoa s) (itoa y))) := by
  obtain ⟨c', a1, a2, hl⟩ := layS h1 hc (G1 (itoa s)) (G2 (itoa s) (itoa y)) (fitG2 (itoa_bd hs) (itoa_bd hy)) (by show 0 < 2; decide) (by show 2 < _; decide)
  have e0 : (0 : Int) + y = y := Int.zero_add y
  have hl2 : Lay (SS c (G1 (itoa s))) 0 [104] (G1 (itoa s)) (DiDictMath.withL (G1 (itoa s)) [103] (itoa (0 + y))) (SS c' (G2 (itoa s) (itoa y))) := by rw [e0, show DiDictMath.withL (G1 (itoa s)) [103] (itoa y) = G2 (itoa s) (itoa y) by kernel_rfl]; exact hl
  have H := run_incr h 0 (by decide) (by decide) (sl_row [[104, 105, 110, 99, 114, 98, 121], [104], [103], itoa y] hq) (rqIg (itoa_bd hy)) (by show 3 < 4; decide) hh (L := G1 (itoa s)) (flS h1 hc _) (fitG1 (itoa_bd hs)) (y := y) (x := 0) (prs_itoa hy) hy (show (0 : Int) = 0 ∧ (0 : Int) = 0 from ⟨rfl, rfl⟩) (by rw [e0]; exact decide_eq_true hy) hl2
  rw [e0] at H
  exact H.mono fun e w' ⟨h1, h2⟩ => ⟨h1, c', ⟨a1, a2⟩, h2⟩
theorem r_back {s y n : Int} {B : Bs} (h : SP F X b w (SS c (G2 (itoa s) B))) (h1 : 1 ≤ c) (hc : c ≤ 5) (hh : Has w) (hB : B.length ≤ 1048576) (hs : InI s) (hy : InI y) (hn : InI n) (e : s + y = n) (hq : w.heap[q]? = some (.cells #[.string ⟨#[104, 105, 110, 99, 114, 98, 121]⟩, .string ⟨#[104]⟩, .string ⟨#[102]⟩, .string (mk (itoa y))] 9 (0, 0))) :
    Calls Tryz.prog 21 #[ptr b, .int .i64 0, .slice (some ⟨q, 0, none⟩) 4 4] w fun e w' => e = .returned (rp 3 ⟨#[]⟩ n) ∧ ∃ c', (1 ≤ c' ∧ c' ≤ c + 1) ∧ Dn F X b w w' (SS c' (G2 (itoa n) B)) := by
  subst e
  obtain ⟨c', a1, a2, hl⟩ := layS h1 hc (G2 (itoa s) B) (G2 (itoa (s + y)) B) (fitG2 (itoa_bd hn) hB) (by show 0 < 2; decide) (by show 2 < _; decide)
  have hl2 : Lay (SS c (G2 (itoa s) B)) 0 [104] (G2 (itoa s) B) (DiDictMath.withL (G2 (itoa s) B) [102] (itoa (s + y))) (SS c' (G2 (itoa (s + y)) B)) := by rw [show DiDictMath.withL (G2 (itoa s) B) [102] (itoa (s + y)) = G2 (itoa (s + y)) B by kernel_rfl]; exact hl
  exact (run_incr h 0 (by decide) (by decide) (sl_row [[104, 105, 110, 99, 114, 98, 121], [104], [102], itoa y] hq) (rqIf (itoa_bd hy)) (by show 3 < 4; decide) hh (L := G2 (itoa s) B) (flS h1 hc _) (fitG2 (itoa_bd hs) hB) (y := y) (x := s) (prs_itoa hy) hy (show TextMath.Parsed (itoa s) s 0 from parsed_itoa hs) (decide_eq_true hn) hl2).mono fun e w' ⟨h1, h2⟩ => ⟨h1, c', ⟨a1, a2⟩, h2⟩
end
end Go.Proofs.YtcgdnpcegcmboaaGreatDoor.HIncr
