/- KeycmdDeadlines. From what lists of texts read as to their cells, and how much they hold. From what the rows list of the library's two errors to what the contracts ask. -/
import Derived.Test.YtminfpkigenahaaGreatDoorKPerM
import Derived.Test.YtminfpkigenahaaGreatDoorKSureM
import Derived.Laws.DeepStrings4
import Derived.Test.YtminfpkigenahaaGreatDoorBaseM
import Derived.Test.YtminfpkigenahaaGreatDoorRows
import Derived.Test.YtminfpkigenahaaGreatDoorQBaseM
import Derived.SliceStrings
import Derived.Deep.Slices
section
namespace Go.Proofs.YtminfpkigenahaaGreatDoor.KDlaw
open Go.RowKit Go.Maps
open Go.Proofs.YtminfpkigenahaaGreatDoor.SpaceMath (wout withL lkp keys Ris toD)
open Go.Proofs.YtminfpkigenahaaGreatDoor.ValueMath (Vl chk small)
open Go.Proofs.YtminfpkigenahaaGreatDoor.Base (mk mk_list mk_size Gr hid_of SL)
open Go.Proofs.YtminfpkigenahaaGreatDoor.Turn
open Go.Proofs.YtminfpkigenahaaGreatDoor.Vals
open Go.Proofs.YtminfpkigenahaaGreatDoor.Check0 (Wel)
open Go.Proofs.YtminfpkigenahaaGreatDoor.SBase
open Go.Proofs.YtminfpkigenahaaGreatDoor.SFind
open Go.Proofs.YtminfpkigenahaaGreatDoor.SPut (vO)
open Go.Proofs.YtminfpkigenahaaGreatDoor.QBase
open Go.Proofs.YtminfpkigenahaaGreatDoor.KCmd
open Go.Proofs.YtminfpkigenahaaGreatDoor.Parse (Has)
set_option linter.unusedVariables false
set_option linter.unusedSimpArgs false
open Go.Proofs.YtminfpkigenahaaGreatDoor.KReq
open Go.Proofs.YtminfpkigenahaaGreatDoor.KDl
open Go.Proofs.YtminfpkigenahaaGreatDoor.KSure (int_yes aft0 aft1 sure_call)
open Go.Proofs.YtminfpkigenahaaGreatDoor.TextMath (dec_small dec_big)
open Go.Lib (itoa decDigits)
def rest (v : Nat) : List UInt8 := if v = 0 then [] else decDigits v
theorem rest_step {v : Nat} (h : 0 < v) (l : List UInt8) : rest (v / 10) ++ (UInt8.ofNat (48 + v % 10) :: l) = rest v ++ l := by
  unfold rest
  rw [if_neg (show ¬ v = 0 from by omega)]
  by_cases h1 : v < 10
  · rw [if_pos (by omega), dec_small h1, show v % 10 = v from by omega]; rfl
  · rw [if_neg (by omega), dec_big h1]; simp
theorem app_one (c : UInt8) (l : List UInt8) : ((⟨#[c]⟩ : ByteArray) ++ (⟨l.toArray⟩ : ByteArray)) = ⟨(c :: l).toArray⟩ := by
  apply ByteArray.ext
  simp
abbrev tenB : ByteArray := ⟨#[48, 49, 50, 51, 52, 53, 54, 55, 56, 57]⟩
theorem ten_cut (d : Nat) (h : d < 10) : tenB.extract d (d + 1) = ⟨#[UInt8.ofNat (48 + d)]⟩ := by
  match d, h with
  | 0, _ => rfl
  | 1, _ => rfl
  | 2, _ => rfl
  | 3, _ => rfl
  | 4, _ => rfl
  | 5, _ => rfl
  | 6, _ => rfl
  | 7, _ => rfl
  | 8, _ => rfl
  | 9, _ => rfl
theorem step_any {y : Int} {l m : List UInt8} (h : 0 < y) (HL : Hid (rest y.toNat ++ l = m)) : Hid (rest (y / 10).toNat ++ (UInt8.ofNat (48 + y % 10).toNat :: l) = m) := by
  show _ = _
  rw [← HL.out, ← rest_step (show 0 < y.toNat from by omega) l, show (y / 10).toNat = y.toNat / 10 from by omega, show (48 + y % 10).toNat = 48 + y.toNat % 10 from by omega]
theorem end_list {y : Int} {l m : List UInt8} (h : y ≤ 0) (HL : Hid (rest y.toNat ++ l = m)) : l = m := by
  rw [← HL.out, show y.toNat = 0 from by omega]; rfl
theorem len_of {y : Int} {l m : List UInt8} (HL : Hid (rest y.toNat ++ l = m)) (hm : m.length ≤ 20) : l.length ≤ 20 := by
  rw [← HL.out, List.length_append] at hm
  omega
theorem cut_slice (y : Int) (h : 0 ≤ y) (w : World) : (Instr.slice 9 (.string tenB) (some (.int .i64 (y % 10))) (some (.int .i64 (y % 10 + 1))) none).run Tryz.prog w = .ok (.string ⟨#[UInt8.ofNat (48 + y % 10).toNat]⟩) w := by
  have H := run_slice_string (P := Tryz.prog) 9 tenB .i64 .i64 (y % 10) (y % 10 + 1) Tryz.underlying9 (by omega) (by omega) (by show _ ≤ ((10 : Nat) : Int); omega) (w := w)
  rw [H]
  obtain ⟨d, hd, hd2⟩ : ∃ d : Nat, d < 10 ∧ y % 10 = (d : Int) := ⟨(y % 10).toNat, by omega, by omega⟩
  rw [hd2, show (48 + (d : Int)).toNat = 48 + d from by omega, show ((d : Int) + 1).toNat = d + 1 from by omega, show (d : Int).toNat = d from by omega, ten_cut d hd]
set_option maxHeartbeats 16000000 in
set_option maxRecDepth 100000 in
theorem law_in (w : World) (hh : Has w) (d0 n0 D N : Int) (hD : max 1 (min d0 9007199254740992) = D) (hN : max 0 (min n0 (D - 1)) = N) (i : In D N) : Calls Tryz.prog 3 #[.int .i64 d0, .int .i64 n0] w fun e w' => e = .returned (.bool true) ∧ Below w.heap.size w w' := by
  have HHas := hid_of hh
  have HN := hid_of (STouch.new_call w)
  have HI := hid_of int_yes
  have HT := hid_of fun (V : World) => text_call ⟨#[118]⟩ V
  have HPu := hid_of fun (F X : Nat → Prop) (b : Nat) (V : World) (h : SP F X b V S0) => put_k h
  have HSu := hid_of sure_call
  have HII := hid_of i
  have ia := i.a; have ib := i.b; have ic := i.c; have id := i.d
  obtain ⟨TD, hTD⟩ : ∃ T, T = mk (itoa D) := ⟨_, rfl⟩
  have HTD := hid_of hTD
  have HR0 := hid_of (show rest D.toNat ++ [] = itoa D from by
    unfold rest itoa
    rw [if_neg (by omega), if_neg (by omega), List.append_nil])
  have HL20 := hid_of (show (itoa D).length ≤ 20 from by unfold itoa; rw [if_neg (by omega)]; exact dec_len 19 D.toNat (by omega))
  obtain ⟨s1, s2, s3, s4⟩ := secs_in i
  have HRset := hid_of fun (F X : Nat → Prop) (b : Nat) (V : World) (q : Nat) (h : SP F X b V (A0)) (hh : Has V) (hq : V.heap[q]? = some (.cells #[.string ⟨#[112, 101, 120, 112, 105, 114, 101, 97, 116]⟩, .string ⟨#[107]⟩, .string TD] 9 (0, 0))) => (show Calls Tryz.prog 8 #[ptr b, .int .i64 N, .slice (some ⟨q, 0, none⟩) 3 3] V fun e w' => e = .returned (rp 3 ⟨#[]⟩ 1) ∧ Dn F X b V w' (A1 D) from r_set h i hh (by rw [← hTD]; exact hq))
  have HRwhen := hid_of fun (F X : Nat → Prop) (b : Nat) (V : World) (q : Nat) (h : SP F X b V (A1 D)) (hq : V.heap[q]? = some (.cells #[.string ⟨#[112, 101, 120, 112, 105, 114, 101, 116, 105, 109, 101]⟩, .string ⟨#[107]⟩] 9 (0, 0))) => (show Calls Tryz.prog 8 #[ptr b, .int .i64 N, .slice (some ⟨q, 0, none⟩) 2 2] V fun e w' => e = .returned (rp 3 ⟨#[]⟩ D) ∧ Dn F X b V w' (A1 D) from r_when h i hq)
  have HRleft := hid_of fun (F X : Nat → Prop) (b : Nat) (V : World) (q : Nat) (h : SP F X b V (A1 D)) (hq : V.heap[q]? = some (.cells #[.string ⟨#[112, 116, 116, 108]⟩, .string ⟨#[107]⟩] 9 (0, 0))) => (show Calls Tryz.prog 8 #[ptr b, .int .i64 N, .slice (some ⟨q, 0, none⟩) 2 2] V fun e w' => e = .returned (rp 3 ⟨#[]⟩ (D - N)) ∧ Dn F X b V w' (A1 D) from r_left h i hq)
  have HRttl := hid_of fun (F X : Nat → Prop) (b : Nat) (V : World) (q : Nat) (h : SP F X b V (A1 D)) (hq : V.heap[q]? = some (.cells #[.string ⟨#[116, 116, 108]⟩, .string ⟨#[107]⟩] 9 (0, 0))) => (show Calls Tryz.prog 8 #[ptr b, .int .i64 N, .slice (some ⟨q, 0, none⟩) 2 2] V fun e w' => e = .returned (rp 3 ⟨#[]⟩ (secs D N)) ∧ Dn F X b V w' (A1 D) from r_ttl h i hq)
  have HRex1 := hid_of fun (F X : Nat → Prop) (b : Nat) (V : World) (q : Nat) (h : SP F X b V (A1 D)) (hq : V.heap[q]? = some (.cells #[.string ⟨#[101, 120, 105, 115, 116, 115]⟩, .string ⟨#[107]⟩] 9 (0, 0))) => (show Calls Tryz.prog 8 #[ptr b, .int .i64 (D - 1), .slice (some ⟨q, 0, none⟩) 2 2] V fun e w' => e = .returned (rp 3 ⟨#[]⟩ 1) ∧ Dn F X b V w' (A1 D) from r_ex1 h i hq)
  have HRex0 := hid_of fun (F X : Nat → Prop) (b : Nat) (V : World) (q : Nat) (h : SP F X b V (A1 D)) (hq : V.heap[q]? = some (.cells #[.string ⟨#[101, 120, 105, 115, 116, 115]⟩, .string ⟨#[107]⟩] 9 (0, 0))) => (show Calls Tryz.prog 8 #[ptr b, .int .i64 D, .slice (some ⟨q, 0, none⟩) 2 2] V fun e w' => e = .returned (rp 3 ⟨#[]⟩ 0) ∧ Dn F X b V w' (A1 D) from r_ex0 h i hq)
  have HRttln := hid_of fun (F X : Nat → Prop) (b : Nat) (V : World) (q : Nat) (h : SP F X b V (A1 D)) (hq : V.heap[q]? = some (.cells #[.string ⟨#[116, 116, 108]⟩, .string ⟨#[107]⟩] 9 (0, 0))) => (show Calls Tryz.prog 8 #[ptr b, .int .i64 D, .slice (some ⟨q, 0, none⟩) 2 2] V fun e w' => e = .returned (rp 3 ⟨#[]⟩ (-2)) ∧ Dn F X b V w' (A1 D) from r_ttln h i hq)
  have HRgt := hid_of fun (F X : Nat → Prop) (b : Nat) (V : World) (q : Nat) (h : SP F X b V (A1 D)) (hh : Has V) (hq : V.heap[q]? = some (.cells #[.string ⟨#[112, 101, 120, 112, 105, 114, 101, 97, 116]⟩, .string ⟨#[107]⟩, .string TD, .string ⟨#[71, 84]⟩] 9 (0, 0))) => (show Calls Tryz.prog 8 #[ptr b, .int .i64 N, .slice (some ⟨q, 0, none⟩) 4 4] V fun e w' => e = .returned (rp 3 ⟨#[]⟩ 0) ∧ Dn F X b V w' (A1 D) from r_gt h i hh (by rw [← hTD]; exact hq))
  have HRlt := hid_of fun (F X : Nat → Prop) (b : Nat) (V : World) (q : Nat) (h : SP F X b V (A1 D)) (hh : Has V) (hq : V.heap[q]? = some (.cells #[.string ⟨#[112, 101, 120, 112, 105, 114, 101, 97, 116]⟩, .string ⟨#[107]⟩, .string TD, .string ⟨#[76, 84]⟩] 9 (0, 0))) => (show Calls Tryz.prog 8 #[ptr b, .int .i64 N, .slice (some ⟨q, 0, none⟩) 4 4] V fun e w' => e = .returned (rp 3 ⟨#[]⟩ 0) ∧ Dn F X b V w' (A1 D) from r_lt h i hh (by rw [← hTD]; exact hq))
  have HRnx := hid_of fun (F X : Nat → Prop) (b : Nat) (V : World) (q : Nat) (h : SP F X b V (A1 D)) (hh : Has V) (hq : V.heap[q]? = some (.cells #[.string ⟨#[112, 101, 120, 112, 105, 114, 101, 97, 116]⟩, .string ⟨#[107]⟩, .string TD, .string ⟨#[78, 88]⟩] 9 (0, 0))) => (show Calls Tryz.prog 8 #[ptr b, .int .i64 N, .slice (some ⟨q, 0, none⟩) 4 4] V fun e w' => e = .returned (rp 3 ⟨#[]⟩ 0) ∧ Dn F X b V w' (A1 D) from r_nx h i hh (by rw [← hTD]; exact hq))
  have HRper := hid_of fun (F X : Nat → Prop) (b : Nat) (V : World) (q : Nat) (h : SP F X b V (A1 D)) (hq : V.heap[q]? = some (.cells #[.string ⟨#[112, 101, 114, 115, 105, 115, 116]⟩, .string ⟨#[107]⟩] 9 (0, 0))) => (show Calls Tryz.prog 8 #[ptr b, .int .i64 N, .slice (some ⟨q, 0, none⟩) 2 2] V fun e w' => e = .returned (rp 3 ⟨#[]⟩ 1) ∧ Dn F X b V w' (A2) from r_per h i hq)
  have HRper0 := hid_of fun (F X : Nat → Prop) (b : Nat) (V : World) (q : Nat) (h : SP F X b V (A2)) (hq : V.heap[q]? = some (.cells #[.string ⟨#[112, 101, 114, 115, 105, 115, 116]⟩, .string ⟨#[107]⟩] 9 (0, 0))) => (show Calls Tryz.prog 8 #[ptr b, .int .i64 N, .slice (some ⟨q, 0, none⟩) 2 2] V fun e w' => e = .returned (rp 3 ⟨#[]⟩ 0) ∧ Dn F X b V w' (A2) from r_per0 h i hq)
  have HRttl2 := hid_of fun (F X : Nat → Prop) (b : Nat) (V : World) (q : Nat) (h : SP F X b V (A2)) (hq : V.heap[q]? = some (.cells #[.string ⟨#[116, 116, 108]⟩, .string ⟨#[107]⟩] 9 (0, 0))) => (show Calls Tryz.prog 8 #[ptr b, .int .i64 D, .slice (some ⟨q, 0, none⟩) 2 2] V fun e w' => e = .returned (rp 3 ⟨#[]⟩ (-1)) ∧ Dn F X b V w' (A2) from r_ttl2 h i hq)
  have HRdrop := hid_of fun (F X : Nat → Prop) (b : Nat) (V : World) (q : Nat) (h : SP F X b V (A2)) (hh : Has V) (hq : V.heap[q]? = some (.cells #[.string ⟨#[112, 101, 120, 112, 105, 114, 101, 97, 116]⟩, .string ⟨#[107]⟩, .string TD] 9 (0, 0))) => (show Calls Tryz.prog 8 #[ptr b, .int .i64 D, .slice (some ⟨q, 0, none⟩) 3 3] V fun e w' => e = .returned (rp 3 ⟨#[]⟩ 1) ∧ Dn F X b V w' (A3) from r_drop h i hh (by rw [← hTD]; exact hq))
  have HRex3 := hid_of fun (F X : Nat → Prop) (b : Nat) (V : World) (q : Nat) (h : SP F X b V (A3)) (hq : V.heap[q]? = some (.cells #[.string ⟨#[101, 120, 105, 115, 116, 115]⟩, .string ⟨#[107]⟩] 9 (0, 0))) => (show Calls Tryz.prog 8 #[ptr b, .int .i64 N, .slice (some ⟨q, 0, none⟩) 2 2] V fun e w' => e = .returned (rp 3 ⟨#[]⟩ 0) ∧ Dn F X b V w' (A3) from r_ex3 h i hq)
  generalize hS : secs D N = T at *
  have wD1 : IntKind.i64.wrap (D - 1) = D - 1 := IntWalk.i64_in _ (by omega)
  have wDN : IntKind.i64.wrap (D - N) = D - N := IntWalk.i64_in _ (by omega)
  have wT : IntKind.i64.wrap (1000 * T) = 1000 * T := IntWalk.i64_in _ (by omega)
  have wT1 : IntKind.i64.wrap (T - 1) = T - 1 := IntWalk.i64_in _ (by omega)
  have wTT : IntKind.i64.wrap (1000 * (T - 1)) = 1000 * (T - 1) := IntWalk.i64_in _ (by omega)
  have nT : ¬ (1000 * T < D - N) := by omega
  have nTT : ¬ (1000 * (T - 1) ≥ D - N) := by omega
  clear hh i hTD hS
  go_enter Tryz.func3, Tryz.ntmps3
  go_wp2_with fail
  refine HN.out.mono ?_
  rintro e u0 ⟨F0, rfl, hsp, hb, hF⟩
  have HSP := hid_of (show ∃ X, SP F0 X w.heap.size u0 S0 from ⟨_, hsp⟩)
  have HB := hid_of hb
  have HF := hid_of hF
  clear hsp hb hF HN
  obtain ⟨X0, hsp⟩ := HSP.out
  clear HSP
  have HSP := hid_of hsp
  clear hsp
  go_wp2_with fail
  refine (HT.out u0).mono ?_
  rintro e c1 ⟨rfl, bb⟩
  have hsp' := HSP.out.below bb
  have hb' := HB.out.trans (bb.mono HB.out.size)
  clear HSP HB bb
  have HSP := hid_of hsp'
  have HB := hid_of hb'
  clear hsp' hb'
  go_wp2_with fail
  refine (HPu.out _ _ _ _ HSP.out).mono ?_
  rintro e p0 ⟨rfl, d⟩
  obtain ⟨F1', X1', sp, B, f⟩ := aft1 (S := S0) HB.out HF.out d
  clear HSP HB HF HPu HT
  have HSP := hid_of sp
  have HB := hid_of B
  have HF := hid_of f
  clear d sp B f
  go_wp2_with fail
  go_loopw [7, 6] (fun x t wr => ∃ (y : Int) (l : List UInt8), 0 ≤ y ∧ y ≤ 9007199254740992 ∧ x = .int .i64 y ∧ t = .string ⟨l.toArray⟩ ∧ Hid (rest y.toNat ++ l = itoa D) ∧ p0 = wr) (fun x _ _ => (intOf x).toNat)
  case atStart => exact ⟨D, [], by omega, by omega, rfl, rfl, HR0, rfl⟩
  case round =>
    obtain ⟨y, l, hy0, hy1, rfl, rfl, HL, hwr⟩ := hrel
    subst hwr
    have hl := len_of HL HL20.out
    by_cases hlt : 0 < y
    · have hc := cut_slice y hy0 p0
      have HM := step_any hlt HL
      have e1 : Int.tmod y 10 = y % 10 := Int.tmod_eq_emod_of_nonneg (by omega)
      have e2 : Int.tdiv y 10 = y / 10 := Int.tdiv_eq_ediv_of_nonneg (by omega)
      have e3 : IntKind.i64.wrap (y % 10 + 1) = y % 10 + 1 := IntWalk.i64_in _ (by omega)
      have hy9 : y ≤ 9223372036854775807 := by omega
      go_wp2_with fail
      exact ⟨⟨y / 10, _, by omega, by omega, rfl, congrArg Value.string (app_one _ _), HM, trivial⟩, by simp [intOf]; omega⟩
    · obtain rfl : l = itoa D := end_list (by omega) HL
      have eTD : (⟨(itoa D).toArray⟩ : ByteArray) = TD := HTD.out.symm
      rw [eTD]
      clear HL hl
      -- request set
      obtain ⟨Vset, hV⟩ : ∃ V, V = p0.alloc (.cells #[.string ⟨#[112, 101, 120, 112, 105, 114, 101, 97, 116]⟩, .string ⟨#[107]⟩, .string TD] 9) := ⟨_, rfl⟩
      have bV : Below p0.heap.size p0 Vset := by rw [hV]; exact alb _ _
      have HQ := hid_of (HRset.out _ _ _ Vset p0.heap.size (sp_wide HSP.out bV) (HHas.out.later (HB.out.trans (bV.mono HB.out.size))) (by rw [hV]; exact heap_alloc_new p0 _))
      have HW := hid_of hV
      have HbV := hid_of bV
      clear hV bV HRset
      go_wp2_with fail
      rw [← HW.out]
      refine HQ.out.mono ?_
      rintro e uset ⟨rfl, d⟩
      obtain ⟨Fset, Xset, sp, B, f⟩ := aft0 HSP.out HB.out HF.out HbV.out d
      clear HSP HB HF
      have HSP := hid_of sp
      have HB := hid_of B
      have HF := hid_of f
      clear d sp B f HQ HW HbV
      go_wp2_with fail
      refine (HI.out 1 uset).mono ?_
      rintro e c2 ⟨rfl, bb⟩
      have hsp' := HSP.out.below bb
      have hb' := HB.out.trans (bb.mono HB.out.size)
      clear HSP HB bb
      have HSP := hid_of hsp'
      have HB := hid_of hb'
      clear hsp' hb'
      -- request when
      obtain ⟨Vwhen, hV⟩ : ∃ V, V = c2.alloc (.cells #[.string ⟨#[112, 101, 120, 112, 105, 114, 101, 116, 105, 109, 101]⟩, .string ⟨#[107]⟩] 9) := ⟨_, rfl⟩
      have bV : Below c2.heap.size c2 Vwhen := by rw [hV]; exact alb _ _
      have HQ := hid_of (HRwhen.out _ _ _ Vwhen c2.heap.size (sp_wide HSP.out bV) (by rw [hV]; exact heap_alloc_new c2 _))
      have HW := hid_of hV
      have HbV := hid_of bV
      clear hV bV HRwhen
      go_wp2_with fail
      rw [← HW.out]
      refine HQ.out.mono ?_
      rintro e uwhen ⟨rfl, d⟩
      obtain ⟨Fwhen, Xwhen, sp, B, f⟩ := aft0 HSP.out HB.out HF.out HbV.out d
      clear HSP HB HF
      have HSP := hid_of sp
      have HB := hid_of B
      have HF := hid_of f
      clear d sp B f HQ HW HbV
      go_wp2_with fail
      refine (HI.out D uwhen).mono ?_
      rintro e c3 ⟨rfl, bb⟩
      have hsp' := HSP.out.below bb
      have hb' := HB.out.trans (bb.mono HB.out.size)
      clear HSP HB bb
      have HSP := hid_of hsp'
      have HB := hid_of hb'
      clear hsp' hb'
      -- request left
      obtain ⟨Vleft, hV⟩ : ∃ V, V = c3.alloc (.cells #[.string ⟨#[112, 116, 116, 108]⟩, .string ⟨#[107]⟩] 9) := ⟨_, rfl⟩
      have bV : Below c3.heap.size c3 Vleft := by rw [hV]; exact alb _ _
      have HQ := hid_of (HRleft.out _ _ _ Vleft c3.heap.size (sp_wide HSP.out bV) (by rw [hV]; exact heap_alloc_new c3 _))
      have HW := hid_of hV
      have HbV := hid_of bV
      clear hV bV HRleft
      go_wp2_with fail
      rw [← HW.out]
      refine HQ.out.mono ?_
      rintro e uleft ⟨rfl, d⟩
      obtain ⟨Fleft, Xleft, sp, B, f⟩ := aft0 HSP.out HB.out HF.out HbV.out d
      clear HSP HB HF
      have HSP := hid_of sp
      have HB := hid_of B
      have HF := hid_of f
      clear d sp B f HQ HW HbV
      go_wp2_with fail
      refine (HI.out (D - N) uleft).mono ?_
      rintro e c4 ⟨rfl, bb⟩
      have hsp' := HSP.out.below bb
      have hb' := HB.out.trans (bb.mono HB.out.size)
      clear HSP HB bb
      have HSP := hid_of hsp'
      have HB := hid_of hb'
      clear hsp' hb'
      -- request ttl
      obtain ⟨Vttl, hV⟩ : ∃ V, V = c4.alloc (.cells #[.string ⟨#[116, 116, 108]⟩, .string ⟨#[107]⟩] 9) := ⟨_, rfl⟩
      have bV : Below c4.heap.size c4 Vttl := by rw [hV]; exact alb _ _
      have HQ := hid_of (HRttl.out _ _ _ Vttl c4.heap.size (sp_wide HSP.out bV) (by rw [hV]; exact heap_alloc_new c4 _))
      have HW := hid_of hV
      have HbV := hid_of bV
      clear hV bV HRttl
      go_wp2_with fail
      rw [← HW.out]
      refine HQ.out.mono ?_
      rintro e uttl ⟨rfl, d⟩
      obtain ⟨Fttl, Xttl, sp, B, f⟩ := aft0 HSP.out HB.out HF.out HbV.out d
      clear HSP HB HF
      have HSP := hid_of sp
      have HB := hid_of B
      have HF := hid_of f
      clear d sp B f HQ HW HbV
      obtain ⟨BT, hV⟩ : ∃ V, V = uttl.alloc (rO 3 ⟨#[]⟩ T (.slice none 0 0)) := ⟨_, rfl⟩
      have bV : Below uttl.heap.size uttl BT := by rw [hV]; exact alb _ _
      have HTc := hid_of (show BT.heap[uttl.heap.size]? = some (rO 3 ⟨#[]⟩ T (.slice none 0 0)) by rw [hV]; exact heap_alloc_new uttl _)
      obtain ⟨⟨tc0, -, tc2, -⟩, -⟩ := box4 HTc.out
      rw [hV] at tc0 tc2
      have hsp' := HSP.out.below bV
      have hb' := HB.out.trans (bV.mono HB.out.size)
      have HWT := hid_of hV
      clear HSP HB bV hV HTc
      have HSP := hid_of hsp'
      have HB := hid_of hb'
      clear hsp' hb'
      -- request ex1
      obtain ⟨Vex1, hV⟩ : ∃ V, V = BT.alloc (.cells #[.string ⟨#[101, 120, 105, 115, 116, 115]⟩, .string ⟨#[107]⟩] 9) := ⟨_, rfl⟩
      have bV : Below BT.heap.size BT Vex1 := by rw [hV]; exact alb _ _
      have HQ := hid_of (HRex1.out _ _ _ Vex1 BT.heap.size (sp_wide HSP.out bV) (by rw [hV]; exact heap_alloc_new BT _))
      have HW := hid_of hV
      have HbV := hid_of bV
      clear hV bV HRex1
      have sz : BT.heap.size = uttl.heap.size + 1 := by rw [HWT.out]; simp
      rw [sz] at HQ
      go_wp2_with fail
      rw [← HWT.out]
      rw [← HW.out]
      refine HQ.out.mono ?_
      rintro e uex1 ⟨rfl, d⟩
      obtain ⟨Fex1, Xex1, sp, B, f⟩ := aft0 HSP.out HB.out HF.out HbV.out d
      clear HSP HB HF
      have HSP := hid_of sp
      have HB := hid_of B
      have HF := hid_of f
      clear d sp B f HQ HW HbV
      go_wp2_with fail
      refine (HI.out 1 uex1).mono ?_
      rintro e c5 ⟨rfl, bb⟩
      have hsp' := HSP.out.below bb
      have hb' := HB.out.trans (bb.mono HB.out.size)
      clear HSP HB bb
      have HSP := hid_of hsp'
      have HB := hid_of hb'
      clear hsp' hb'
      clear tc0 tc2
      -- request ex0
      obtain ⟨Vex0, hV⟩ : ∃ V, V = c5.alloc (.cells #[.string ⟨#[101, 120, 105, 115, 116, 115]⟩, .string ⟨#[107]⟩] 9) := ⟨_, rfl⟩
      have bV : Below c5.heap.size c5 Vex0 := by rw [hV]; exact alb _ _
      have HQ := hid_of (HRex0.out _ _ _ Vex0 c5.heap.size (sp_wide HSP.out bV) (by rw [hV]; exact heap_alloc_new c5 _))
      have HW := hid_of hV
      have HbV := hid_of bV
      clear hV bV HRex0
      go_wp2_with fail
      rw [← HW.out]
      refine HQ.out.mono ?_
      rintro e uex0 ⟨rfl, d⟩
      obtain ⟨Fex0, Xex0, sp, B, f⟩ := aft0 HSP.out HB.out HF.out HbV.out d
      clear HSP HB HF
      have HSP := hid_of sp
      have HB := hid_of B
      have HF := hid_of f
      clear d sp B f HQ HW HbV
      go_wp2_with fail
      refine (HI.out 0 uex0).mono ?_
      rintro e c6 ⟨rfl, bb⟩
      have hsp' := HSP.out.below bb
      have hb' := HB.out.trans (bb.mono HB.out.size)
      clear HSP HB bb
      have HSP := hid_of hsp'
      have HB := hid_of hb'
      clear hsp' hb'
      -- request ttln
      obtain ⟨Vttln, hV⟩ : ∃ V, V = c6.alloc (.cells #[.string ⟨#[116, 116, 108]⟩, .string ⟨#[107]⟩] 9) := ⟨_, rfl⟩
      have bV : Below c6.heap.size c6 Vttln := by rw [hV]; exact alb _ _
      have HQ := hid_of (HRttln.out _ _ _ Vttln c6.heap.size (sp_wide HSP.out bV) (by rw [hV]; exact heap_alloc_new c6 _))
      have HW := hid_of hV
      have HbV := hid_of bV
      clear hV bV HRttln
      go_wp2_with fail
      rw [← HW.out]
      refine HQ.out.mono ?_
      rintro e uttln ⟨rfl, d⟩
      obtain ⟨Fttln, Xttln, sp, B, f⟩ := aft0 HSP.out HB.out HF.out HbV.out d
      clear HSP HB HF
      have HSP := hid_of sp
      have HB := hid_of B
      have HF := hid_of f
      clear d sp B f HQ HW HbV
      go_wp2_with fail
      refine (HI.out (-2) uttln).mono ?_
      rintro e c7 ⟨rfl, bb⟩
      have hsp' := HSP.out.below bb
      have hb' := HB.out.trans (bb.mono HB.out.size)
      clear HSP HB bb
      have HSP := hid_of hsp'
      have HB := hid_of hb'
      clear hsp' hb'
      -- request gt
      obtain ⟨Vgt, hV⟩ : ∃ V, V = c7.alloc (.cells #[.string ⟨#[112, 101, 120, 112, 105, 114, 101, 97, 116]⟩, .string ⟨#[107]⟩, .string TD, .string ⟨#[71, 84]⟩] 9) := ⟨_, rfl⟩
      have bV : Below c7.heap.size c7 Vgt := by rw [hV]; exact alb _ _
      have HQ := hid_of (HRgt.out _ _ _ Vgt c7.heap.size (sp_wide HSP.out bV) (HHas.out.later (HB.out.trans (bV.mono HB.out.size))) (by rw [hV]; exact heap_alloc_new c7 _))
      have HW := hid_of hV
      have HbV := hid_of bV
      clear hV bV HRgt
      go_wp2_with fail
      rw [← HW.out]
      refine HQ.out.mono ?_
      rintro e ugt ⟨rfl, d⟩
      obtain ⟨Fgt, Xgt, sp, B, f⟩ := aft0 HSP.out HB.out HF.out HbV.out d
      clear HSP HB HF
      have HSP := hid_of sp
      have HB := hid_of B
      have HF := hid_of f
      clear d sp B f HQ HW HbV
      go_wp2_with fail
      refine (HI.out 0 ugt).mono ?_
      rintro e c8 ⟨rfl, bb⟩
      have hsp' := HSP.out.below bb
      have hb' := HB.out.trans (bb.mono HB.out.size)
      clear HSP HB bb
      have HSP := hid_of hsp'
      have HB := hid_of hb'
      clear hsp' hb'
      -- request lt
      obtain ⟨Vlt, hV⟩ : ∃ V, V = c8.alloc (.cells #[.string ⟨#[112, 101, 120, 112, 105, 114, 101, 97, 116]⟩, .string ⟨#[107]⟩, .string TD, .string ⟨#[76, 84]⟩] 9) := ⟨_, rfl⟩
      have bV : Below c8.heap.size c8 Vlt := by rw [hV]; exact alb _ _
      have HQ := hid_of (HRlt.out _ _ _ Vlt c8.heap.size (sp_wide HSP.out bV) (HHas.out.later (HB.out.trans (bV.mono HB.out.size))) (by rw [hV]; exact heap_alloc_new c8 _))
      have HW := hid_of hV
      have HbV := hid_of bV
      clear hV bV HRlt
      go_wp2_with fail
      rw [← HW.out]
      refine HQ.out.mono ?_
      rintro e ult ⟨rfl, d⟩
      obtain ⟨Flt, Xlt, sp, B, f⟩ := aft0 HSP.out HB.out HF.out HbV.out d
      clear HSP HB HF
      have HSP := hid_of sp
      have HB := hid_of B
      have HF := hid_of f
      clear d sp B f HQ HW HbV
      go_wp2_with fail
      refine (HI.out 0 ult).mono ?_
      rintro e c9 ⟨rfl, bb⟩
      have hsp' := HSP.out.below bb
      have hb' := HB.out.trans (bb.mono HB.out.size)
      clear HSP HB bb
      have HSP := hid_of hsp'
      have HB := hid_of hb'
      clear hsp' hb'
      -- request nx
      obtain ⟨Vnx, hV⟩ : ∃ V, V = c9.alloc (.cells #[.string ⟨#[112, 101, 120, 112, 105, 114, 101, 97, 116]⟩, .string ⟨#[107]⟩, .string TD, .string ⟨#[78, 88]⟩] 9) := ⟨_, rfl⟩
      have bV : Below c9.heap.size c9 Vnx := by rw [hV]; exact alb _ _
      have HQ := hid_of (HRnx.out _ _ _ Vnx c9.heap.size (sp_wide HSP.out bV) (HHas.out.later (HB.out.trans (bV.mono HB.out.size))) (by rw [hV]; exact heap_alloc_new c9 _))
      have HW := hid_of hV
      have HbV := hid_of bV
      clear hV bV HRnx
      go_wp2_with fail
      rw [← HW.out]
      refine HQ.out.mono ?_
      rintro e unx ⟨rfl, d⟩
      obtain ⟨Fnx, Xnx, sp, B, f⟩ := aft0 HSP.out HB.out HF.out HbV.out d
      clear HSP HB HF
      have HSP := hid_of sp
      have HB := hid_of B
      have HF := hid_of f
      clear d sp B f HQ HW HbV
      go_wp2_with fail
      refine (HI.out 0 unx).mono ?_
      rintro e c10 ⟨rfl, bb⟩
      have hsp' := HSP.out.below bb
      have hb' := HB.out.trans (bb.mono HB.out.size)
      clear HSP HB bb
      have HSP := hid_of hsp'
      have HB := hid_of hb'
      clear hsp' hb'
      -- request per
      obtain ⟨Vper, hV⟩ : ∃ V, V = c10.alloc (.cells #[.string ⟨#[112, 101, 114, 115, 105, 115, 116]⟩, .string ⟨#[107]⟩] 9) := ⟨_, rfl⟩
      have bV : Below c10.heap.size c10 Vper := by rw [hV]; exact alb _ _
      have HQ := hid_of (HRper.out _ _ _ Vper c10.heap.size (sp_wide HSP.out bV) (by rw [hV]; exact heap_alloc_new c10 _))
      have HW := hid_of hV
      have HbV := hid_of bV
      clear hV bV HRper
      go_wp2_with fail
      rw [← HW.out]
      refine HQ.out.mono ?_
      rintro e uper ⟨rfl, d⟩
      obtain ⟨Fper, Xper, sp, B, f⟩ := aft0 HSP.out HB.out HF.out HbV.out d
      clear HSP HB HF
      have HSP := hid_of sp
      have HB := hid_of B
      have HF := hid_of f
      clear d sp B f HQ HW HbV
      go_wp2_with fail
      refine (HI.out 1 uper).mono ?_
      rintro e c11 ⟨rfl, bb⟩
      have hsp' := HSP.out.below bb
      have hb' := HB.out.trans (bb.mono HB.out.size)
      clear HSP HB bb
      have HSP := hid_of hsp'
      have HB := hid_of hb'
      clear hsp' hb'
      -- request per0
      obtain ⟨Vper0, hV⟩ : ∃ V, V = c11.alloc (.cells #[.string ⟨#[112, 101, 114, 115, 105, 115, 116]⟩, .string ⟨#[107]⟩] 9) := ⟨_, rfl⟩
      have bV : Below c11.heap.size c11 Vper0 := by rw [hV]; exact alb _ _
      have HQ := hid_of (HRper0.out _ _ _ Vper0 c11.heap.size (sp_wide HSP.out bV) (by rw [hV]; exact heap_alloc_new c11 _))
      have HW := hid_of hV
      have HbV := hid_of bV
      clear hV bV HRper0
      go_wp2_with fail
      rw [← HW.out]
      refine HQ.out.mono ?_
      rintro e uper0 ⟨rfl, d⟩
      obtain ⟨Fper0, Xper0, sp, B, f⟩ := aft0 HSP.out HB.out HF.out HbV.out d
      clear HSP HB HF
      have HSP := hid_of sp
      have HB := hid_of B
      have HF := hid_of f
      clear d sp B f HQ HW HbV
      go_wp2_with fail
      refine (HI.out 0 uper0).mono ?_
      rintro e c12 ⟨rfl, bb⟩
      have hsp' := HSP.out.below bb
      have hb' := HB.out.trans (bb.mono HB.out.size)
      clear HSP HB bb
      have HSP := hid_of hsp'
      have HB := hid_of hb'
      clear hsp' hb'
      -- request ttl2
      obtain ⟨Vttl2, hV⟩ : ∃ V, V = c12.alloc (.cells #[.string ⟨#[116, 116, 108]⟩, .string ⟨#[107]⟩] 9) := ⟨_, rfl⟩
      have bV : Below c12.heap.size c12 Vttl2 := by rw [hV]; exact alb _ _
      have HQ := hid_of (HRttl2.out _ _ _ Vttl2 c12.heap.size (sp_wide HSP.out bV) (by rw [hV]; exact heap_alloc_new c12 _))
      have HW := hid_of hV
      have HbV := hid_of bV
      clear hV bV HRttl2
      go_wp2_with fail
      rw [← HW.out]
      refine HQ.out.mono ?_
      rintro e uttl2 ⟨rfl, d⟩
      obtain ⟨Fttl2, Xttl2, sp, B, f⟩ := aft0 HSP.out HB.out HF.out HbV.out d
      clear HSP HB HF
      have HSP := hid_of sp
      have HB := hid_of B
      have HF := hid_of f
      clear d sp B f HQ HW HbV
      go_wp2_with fail
      refine (HI.out (-1) uttl2).mono ?_
      rintro e c13 ⟨rfl, bb⟩
      have hsp' := HSP.out.below bb
      have hb' := HB.out.trans (bb.mono HB.out.size)
      clear HSP HB bb
      have HSP := hid_of hsp'
      have HB := hid_of hb'
      clear hsp' hb'
      -- request drop
      obtain ⟨Vdrop, hV⟩ : ∃ V, V = c13.alloc (.cells #[.string ⟨#[112, 101, 120, 112, 105, 114, 101, 97, 116]⟩, .string ⟨#[107]⟩, .string TD] 9) := ⟨_, rfl⟩
      have bV : Below c13.heap.size c13 Vdrop := by rw [hV]; exact alb _ _
      have HQ := hid_of (HRdrop.out _ _ _ Vdrop c13.heap.size (sp_wide HSP.out bV) (HHas.out.later (HB.out.trans (bV.mono HB.out.size))) (by rw [hV]; exact heap_alloc_new c13 _))
      have HW := hid_of hV
      have HbV := hid_of bV
      clear hV bV HRdrop
      go_wp2_with fail
      rw [← HW.out]
      refine HQ.out.mono ?_
      rintro e udrop ⟨rfl, d⟩
      obtain ⟨Fdrop, Xdrop, sp, B, f⟩ := aft0 HSP.out HB.out HF.out HbV.out d
      clear HSP HB HF
      have HSP := hid_of sp
      have HB := hid_of B
      have HF := hid_of f
      clear d sp B f HQ HW HbV
      go_wp2_with fail
      refine (HI.out 1 udrop).mono ?_
      rintro e c14 ⟨rfl, bb⟩
      have hsp' := HSP.out.below bb
      have hb' := HB.out.trans (bb.mono HB.out.size)
      clear HSP HB bb
      have HSP := hid_of hsp'
      have HB := hid_of hb'
      clear hsp' hb'
      -- request ex3
      obtain ⟨Vex3, hV⟩ : ∃ V, V = c14.alloc (.cells #[.string ⟨#[101, 120, 105, 115, 116, 115]⟩, .string ⟨#[107]⟩] 9) := ⟨_, rfl⟩
      have bV : Below c14.heap.size c14 Vex3 := by rw [hV]; exact alb _ _
      have HQ := hid_of (HRex3.out _ _ _ Vex3 c14.heap.size (sp_wide HSP.out bV) (by rw [hV]; exact heap_alloc_new c14 _))
      have HW := hid_of hV
      have HbV := hid_of bV
      clear hV bV HRex3
      go_wp2_with fail
      rw [← HW.out]
      refine HQ.out.mono ?_
      rintro e uex3 ⟨rfl, d⟩
      obtain ⟨Fex3, Xex3, sp, B, f⟩ := aft0 HSP.out HB.out HF.out HbV.out d
      clear HSP HB HF
      have HSP := hid_of sp
      have HB := hid_of B
      have HF := hid_of f
      clear d sp B f HQ HW HbV
      go_wp2_with fail
      refine (HI.out 0 uex3).mono ?_
      rintro e c15 ⟨rfl, bb⟩
      have hsp' := HSP.out.below bb
      have hb' := HB.out.trans (bb.mono HB.out.size)
      clear HSP HB bb
      have HSP := hid_of hsp'
      have HB := hid_of hb'
      clear hsp' hb'
      go_wp2_with fail
      refine (HSu.out c15 (HHas.out.later HB.out)).mono ?_
      rintro e c16 ⟨rfl, bb⟩
      have hsp' := HSP.out.below bb
      have hb' := HB.out.trans (bb.mono HB.out.size)
      clear HSP HB bb
      have HSP := hid_of hsp'
      have HB := hid_of hb'
      clear hsp' hb'
      go_wp2_with fail
      exact bodyPost_ret (v := .bool true) (by simp [results, Tryz.results3, go_sem]) rfl ⟨rfl, HB.out⟩
theorem law_call (w : World) (hh : Has w) (d0 : Int) (k0 : (Lit.int .i64 d0).wf = true) (n0 : Int) (k1 : (Lit.int .i64 n0).wf = true) : Calls Tryz.prog 3 #[.int .i64 d0, .int .i64 n0] w fun e w' => e = .returned (.bool true) ∧ Below w.heap.size w w' :=
  law_in w hh d0 n0 _ _ rfl rfl ⟨by omega, by omega, by omega, by omega⟩
end Go.Proofs.YtminfpkigenahaaGreatDoor.KDlaw
end
section
namespace Go.Proofs.YtminfpkigenahaaGreatDoor.NmOpen
open Go.ChangeShapes Go.WideShapes Go.RowKit
open Go.Proofs.YtminfpkigenahaaGreatDoor.SetMath
open Go.Proofs.YtminfpkigenahaaGreatDoor.Base
set_option linter.unusedVariables false
set_option linter.unusedSimpArgs false
theorem cells9 : Tryz.prog.cellsOf 9 = 1 := by kernel_rfl
theorem bytes9 : Tryz.prog.bytesOf 9 = 16 := by kernel_rfl
theorem spot_none {w : World} {a : Addr} {v : Value} (h : w.cell? a = some v) : a.spot = none := by
  unfold World.cell? at h
  rcases hh : w.heap[a.block]? with _ | o
  · rw [hh] at h; cases h
  · rw [hh] at h
    cases o with
    | cells c ty fz =>
      cases hs : a.spot with
      | none => rfl
      | some s => simp [hs] at h
    | _ => cases h
theorem add_of {a : Addr} (h : a.spot = none) (k : Nat) : a.add k = ⟨a.block, a.off + k, none⟩ := by
  obtain ⟨b, o, s⟩ := a
  obtain rfl : s = none := h
  exact Addr.add_lit b o k
theorem bulk_one {H : Type} (d : DataW H) : 1 ≤ Rows.uptoBulk d := by
  cases d with
  | lit l => cases l <;> simp only [Rows.uptoBulk] <;> omega
  | _ => simp only [Rows.uptoBulk] <;> omega
theorem bulk_len {H : Type} : ∀ l : List (DataW H), l.length ≤ Rows.uptoBulkAll l
  | [] => Nat.zero_le _
  | d :: l => by
    have := bulk_len l
    have := bulk_one d
    rw [List.length_cons, Rows.uptoBulkAll]
    omega
theorem wf_i64 {n : Int} (h : (Lit.int .i64 n).wf = true) : TextMath.InI n := by
  simp [Lit.wf, IntKind.min, IntKind.max, IntKind.signed, IntKind.bits] at h
  unfold TextMath.InI
  omega
section
variable {H : Type} {enc : TypeId × Value → H} {w : World} {fuel : Nat} {c : Value} {x : DataW H × List MemPlace}
theorem open_strs (h : DataW.trod enc Tryz.prog w 0 (fun _ => true) true fuel 26 [c] = some x) :
    ∃ l : List Bs, SL (fun k => k < w.heap.size) w c l ∧ l.length + 1 ≤ Rows.uptoBulk x.1 ∧ ((∀ n ∈ x.1.weights Tryz.prog 26, n ≤ reachBytes) → l.length * 16 ≤ 140737488351232) ∧ ∀ y ∈ l, y.length < 9223372036854775808 := by
  rcases open_strings Tryz.underlying26 Tryz.underlying9 cells9 h with ⟨e, rfl⟩ | ⟨a, len, cap, ss, e, -, hlc, hm, hz, rfl, hat, hwf⟩
  · cases e
    exact ⟨[], SL.nil _ _, bulk_one _, fun _ => by simp, by simp⟩
  · cases e
    have hl : len ≤ ss.length := by rw [hz]; simp; exact hlc
    have hlen : ((ss.take len).map bs).length = len := by rw [List.length_map, List.length_take]; omega
    refine ⟨(ss.take len).map bs, ⟨some a, cap, by rw [hlen], by rw [hlen]; exact hlc, Rd.mono (G := fun k => True ∧ k < w.heap.size) (Rd.lt ?_) fun k _ e => e.2⟩, ?_, fun hx => ?_, fun y hy => ?_⟩
    · by_cases h0 : len = 0
      · left; rw [h0]; rfl
      · right
        have hsp := spot_none (hat 0 (by omega))
        have hs : a.spot = none := by simpa [Addr.add] using hsp
        refine ⟨a.block, a.off, by obtain ⟨b, o, s⟩ := a; obtain rfl : s = none := hs; rfl, trivial, fun j y hj => ?_⟩
        have hj1 : j < ((ss.take len).map bs).length := (List.getElem?_eq_some_iff.1 hj).1
        have hj2 : j < ss.length := by omega
        have h1 := hat j hj2
        rw [add_of hs] at h1
        rw [List.getElem?_map, List.getElem?_take, if_pos (by omega), List.getElem?_eq_getElem hj2] at hj
        simp only [List.getD_eq_getElem?_getD, List.getElem?_eq_getElem hj2, Option.getD_some] at h1
        cases hj
        rw [h1, V, mk_bs]
    · simp only [Rows.uptoBulk]
      have h1 := bulk_len (strs (H := H) (ss.take len))
      have h2 : (strs (H := H) (ss.take len)).length = (ss.take len).length := by simp [strs]
      rw [List.length_map]
      omega
    · have h1 := hx (ss.length * 16) (by
        simp only [DataW.weights, Tryz.underlying26, bytes9]
        refine List.mem_cons.2 (.inl ?_)
        simp [strs]
        omega)
      have hr : reachBytes = 140737488351232 := rfl
      rw [hlen]
      omega
    · obtain ⟨s, hs, rfl⟩ := List.mem_map.1 hy
      have := hwf s (List.mem_of_mem_take hs)
      rw [len_bs]
      unfold maxLen at this
      omega
end
end Go.Proofs.YtminfpkigenahaaGreatDoor.NmOpen
end
section
namespace Go.Proofs.YtminfpkigenahaaGreatDoor.LaidErr
open Go.RowKit
open Go.Proofs.YtminfpkigenahaaGreatDoor.Laid

theorem star : "*" ++ "errors.errorString" = "*errors.errorString" := by decide
theorem row129 (u : TypeId) (h : Tryz.prog.typeName? 3 u = some "*errors.errorString") : u = 251 :=
  typeName_ptr_named (nm := "errors.errorString") (by rw [star]; kernel_rfl) (by kernel_rfl) (by decide) u (by rw [star]; exact h)
theorem rng_of {W : World} {r : List (String × DataW Unit)} (h : laidMet Tryz.prog (("strconv.ErrRange", Rows.laid_strconv_ErrRange) :: r) W) : ∃ tp p, W.var? Tryz.prog "strconv.ErrRange" = some #[.iface tp p] := by
  obtain ⟨a1, s1, hv1, -, -, -⟩ := laid_sentinel h gRng tRng Tryz.underlying167 row129 Tryz.underlying251 Tryz.underlying253 rfl rfl Tryz.underlying9 cells131 cells9
  exact ⟨_, _, hv1⟩
theorem syn_of {W : World} {r : List (String × DataW Unit)} (h : laidMet Tryz.prog (("strconv.ErrSyntax", Rows.laid_strconv_ErrSyntax) :: r) W) : ∃ tp p, W.var? Tryz.prog "strconv.ErrSyntax" = some #[.iface tp p] := by
  obtain ⟨a1, s1, hv1, -, -, -⟩ := laid_sentinel h gSyn tSyn Tryz.underlying167 row129 Tryz.underlying251 Tryz.underlying253 rfl rfl Tryz.underlying9 cells131 cells9
  exact ⟨_, _, hv1⟩
end Go.Proofs.YtminfpkigenahaaGreatDoor.LaidErr
end
