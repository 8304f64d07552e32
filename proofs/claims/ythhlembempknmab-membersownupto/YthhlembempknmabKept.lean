/- kept: are lists as they were, what lies behind them too? -/
import Derived.Test.YthhlembempknmabTwins
namespace Go.Proofs.Ythhlembempknmab.Kept
open Go.RowKit Go.Sort
open Go.Proofs.Ythhlembempknmab.SetMath
open Go.Proofs.Ythhlembempknmab.Base
open Go.Proofs.Ythhlembempknmab.Small
open Go.Proofs.Ythhlembempknmab.Lists
open Go.Proofs.Ythhlembempknmab.ROf
open Go.Proofs.Ythhlembempknmab.Code
open Go.Proofs.Ythhlembempknmab.After
open Go.Proofs.Ythhlembempknmab.Twins
set_option linter.unusedVariables false
set_option linter.unusedSimpArgs false
set_option maxHeartbeats 2000000 in
set_option maxRecDepth 100000 in
theorem kept_call {G : Nat → Prop} {B : Nat} {w : World} {u : Value} {a' : Option Addr} {c' : Nat} {us us' : List Value} {ls : List (List El)} (t : TL B w u us ls) (h : LL G w a' ls us') (hl : ls.length ≤ 140737488355328) (hb : ∀ l ∈ ls, l.length ≤ 140737488355328) :
    Calls Try.prog 14 #[u, .slice a' ls.length c'] w fun e w' => e = .returned (.bool true) ∧ ∃ m, w' = w.drewN m := by
  obtain ⟨a, c, rfl, hc, ll⟩ := t.ll
  have HA := hid_of ll
  have HT := hid_of t
  have HB := hid_of h
  have HLT := hid_of hb
  obtain ⟨L, HL⟩ : ∃ L, Hid (L = ls.length) := ⟨_, hid_of rfl⟩
  rw [← HL.out] at hl hc ⊢
  clear ll t h hb
  go_enter Try.func14, Try.ntmps14
  go_wp2_with fail
  go_loopg [5] L (fun g s5 wx => ∃ i : Nat, i ≤ L ∧ L ≤ i + g ∧ s5 = .int .i64 (i : Int) ∧ Hid (∃ m, wx = w.drewN m))
  case atStart => exact ⟨0, by omega, by omega, rfl, 0, rfl⟩
  case round =>
    obtain ⟨i, hi, hg, rfl, R⟩ := hrel
    by_cases hlt : i < L
    · obtain ⟨g', rfl⟩ : ∃ g', gk = g' + 1 := ⟨gk - 1, by omega⟩
      have hil : i < ls.length := by rw [← HL.out]; exact hlt
      have hm : ls[i]? = some ls[i] := List.getElem?_eq_getElem hil
      have hui : i < us.length := by rw [HT.out.len]; exact hil
      obtain ⟨ga, oa, rfl, _, qa⟩ := HA.out.rd.get (by omega)
      obtain ⟨gb, ob, ub, rfl, cb, slb⟩ := HB.out.get hm
      have hu : us[i]? = some us[i] := List.getElem?_eq_getElem hui
      have ca0 := qa i _ hu
      obtain ⟨gt, ct, et, rt⟩ := HT.out.el i _ _ hu hm
      rw [et] at ca0
      have hct := rt.len
      rw [List.length_append] at hct
      have cs0 := rt.cell (j := ls[i].length) (x := sp) (by simp)
      have sla := (HT.out.el i _ _ hu hm).sl
      rw [et] at sla
      have hlen := HLT.out ls[i] (List.getElem_mem hil)
      have HS := hid_of fun (m : Nat) => same_true (sla.drewN m) (slb.drewN m) rfl hlen
      obtain ⟨ba, bc, rfl, hbc⟩ := SL.len slb
      have hcut := fun W => cut_hi (some ⟨gt, 0, none⟩) ls[i].length ct (ls[i].length + 1) ((ls[i].length : Int) + 1) (by omega) (by simpa using hct) W
      generalize ls[i].length = n at *
      have hct2 : n + 1 ≤ ct := by simpa using hct
      have c1 : wr.cell? ⟨ga, oa + i, none⟩ = some (.slice (some ⟨gt, 0, none⟩) n ct) := by obtain ⟨m, rfl⟩ := R.out; exact ca0
      have c2 : wr.cell? ⟨gb, ob + i, none⟩ = some (.slice ba n bc) := by obtain ⟨m, rfl⟩ := R.out; exact cb
      have c3 : wr.cell? ⟨gt, n, none⟩ = some (.string ⟨#[115, 112, 97, 114, 101]⟩) := by obtain ⟨m, rfl⟩ := R.out; exact cs0
      have HS2 : Hid (∀ m, Calls Try.prog 15 #[.slice (some ⟨gt, 0, none⟩) n ct, .slice ba n bc] (wr.drewN m) fun e w' => e = .returned (.bool true) ∧ ∃ k, w' = (wr.drewN m).drewN k) := hid_of fun m => by
        obtain ⟨q, e⟩ := R.out
        have := HS.out (q + m)
        rw [e, World.drewN_drewN]
        exact this
      have w2 : IntKind.i64.wrap ((i : Int) + 1) = (i : Int) + 1 := IntWalk.i64_in _ (by omega)
      have w3 : IntKind.i64.wrap ((n : Int) + 1) = (n : Int) + 1 := IntWalk.i64_in _ (by omega)
      have d3 : n < n + 1 := by omega
      clear qa cb slb hu ca0 et rt hct cs0 sla hlen HS hm hui hil
      go_wp2_with fail
      go_quiet ((go_at_call 15; exact Calls.quiet_of (HS2.out _)))
      go_wp2_with fail
      go_roundg g'
      case measure => omega
      case rel => exact ⟨i + 1, by omega, by omega, by simp, by obtain ⟨m, e⟩ := R.out; exact ⟨m + nq, by rw [e, World.drewN_drewN]⟩⟩
    · go_wp2_with fail
      go_ret
      exact ⟨rfl, R.out⟩
end Go.Proofs.Ythhlembempknmab.Kept
