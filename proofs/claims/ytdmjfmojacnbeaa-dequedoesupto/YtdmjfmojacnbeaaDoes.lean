/- DequeDoes, walked. -/
import Derived.Test.YtdmjfmojacnbeaaDoO
namespace Go.Proofs.Ytdmjfmojacnbeaa.Does
open Go.RowKit
open Go.Proofs.Ytdmjfmojacnbeaa.Base
open Go.Proofs.Ytdmjfmojacnbeaa.Held
open Go.Proofs.Ytdmjfmojacnbeaa.Lay
open Go.Proofs.Ytdmjfmojacnbeaa.Free
open Go.Proofs.Ytdmjfmojacnbeaa.Keep
open Go.Proofs.Ytdmjfmojacnbeaa.Place
open Go.Proofs.Ytdmjfmojacnbeaa.Piece
open Go.Proofs.Ytdmjfmojacnbeaa.FindMath
open Go.Proofs.Ytdmjfmojacnbeaa.SortC
open Go.Proofs.Ytdmjfmojacnbeaa.DropC
open Go.Proofs.Ytdmjfmojacnbeaa.Remove
open Go.Proofs.Ytdmjfmojacnbeaa.Insert
open Go.Proofs.Ytdmjfmojacnbeaa.Same
open Go.Proofs.Ytdmjfmojacnbeaa.Awake
open Go.Proofs.Ytdmjfmojacnbeaa.Ends
open Go.Proofs.Ytdmjfmojacnbeaa.RefC
open Go.Proofs.Ytdmjfmojacnbeaa.DoA
open Go.Proofs.Ytdmjfmojacnbeaa.DoB
open Go.Proofs.Ytdmjfmojacnbeaa.DoC
open Go.Proofs.Ytdmjfmojacnbeaa.DoD
open Go.Proofs.Ytdmjfmojacnbeaa.DoO
set_option linter.unusedVariables false
set_option linter.unusedSimpArgs false
/-- a deed in memory -/
structure DD where
  K : Int
  la : Option Addr
  lc : Nat
  m : List El
  A : Int
  Bq : Int
  C : Int
  bf : Bool
def DD.d (x : DD) : Dd := ⟨x.K, x.m, x.A, x.Bq, x.C, x.bf⟩
def DD.wt (x : DD) : Nat := x.m.length + 1
def wts (l : List DD) : Nat := (l.map DD.wt).sum
structure DCell (w : World) (g o : Nat) (x : DD) : Prop where
  c0 : w.cell? ⟨g, o, none⟩ = some (.int .i64 x.K)
  c1 : w.cell? ⟨g, o + 1, none⟩ = some (.slice x.la x.m.length x.lc)
  c2 : w.cell? ⟨g, o + 2, none⟩ = some (.int .i64 x.A)
  c3 : w.cell? ⟨g, o + 3, none⟩ = some (.int .i64 x.Bq)
  c4 : w.cell? ⟨g, o + 4, none⟩ = some (.int .i64 x.C)
  c5 : w.cell? ⟨g, o + 5, none⟩ = some (.bool x.bf)
structure DD.ok (w : World) (x : DD) : Prop where
  sl : SL (fun k => k < w.heap.size) w (.slice x.la x.m.length x.lc) x.m
  ia : In x.A
  ib : In x.Bq
structure DSl (w : World) (v : Value) (l : List DD) : Prop where
  at' : ∃ a c, v = .slice a l.length c ∧ (l = [] ∨ ∃ g o, a = some ⟨g, o, none⟩ ∧ ∀ i x, l[i]? = some x → DCell w g (o + i * 6) x)
  ok : ∀ x ∈ l, DD.ok w x
theorem wts_len (l : List DD) : l.length ≤ wts l := by
  induction l with
  | nil => exact Nat.zero_le _
  | cons x r ih => unfold wts at *; simp only [List.map_cons, List.sum_cons, List.length_cons, DD.wt]; omega
theorem wts_take (l : List DD) (k : Nat) (h : k < l.length) : wts (l.take (k + 1)) = wts (l.take k) + l[k].wt := by
  unfold wts
  rw [List.take_succ_eq_append_getElem h, List.map_append, List.sum_append]
  simp
theorem wts_le (l : List DD) (k : Nat) : wts (l.take k) ≤ wts l := by
  have : wts l = wts (l.take k) + wts (l.drop k) := by
    unfold wts
    rw [← List.sum_append, ← List.map_append, List.take_append_drop]
  omega
theorem doS_len (l : List El) (d : Dd) : (doS l d).length ≤ l.length + d.L.length + 1 := by
  unfold doS
  split
  · first | (simp; done) | (simp; omega)
  split
  · first | (simp; done) | (simp; omega)
  split
  · first | (simp; done) | (simp; omega)
  split
  · first | (simp; done) | (simp; omega)
  split
  · unfold putS; split <;> first | (simp; done) | (simp; omega) | omega
  split
  · unfold pieceS; first | (simp; done) | (simp; omega)
  split
  · have := dropS_len l 0 (remP l d.A d.Bq); omega
  split
  · unfold insD
    split
    · omega
    · rename_i k r e
      have hk : k < l.length := by
        have : k ∈ findN l d.A 1 false 1 l.length := by rw [e]; exact List.mem_cons_self
        exact fn_lt this
      rw [insS_len _ _ _ (by split <;> omega)]; omega
  · omega
theorem do_any {F : Nat → Prop} {B b : Nat} {l : List El} {u : Value} {w0 w : World} (h : Sx F B b l u w0 w) (x : DD) (hm : SL (fun k => k < B) w (.slice x.la x.m.length x.lc) x.m) (hA : In x.A) (hB : In x.Bq) (hb : 3 * (l.length + x.m.length) ≤ 4194304) :
    Calls Try.prog 11 #[ptr b, u, .agg (box x.K x.A x.Bq x.C (.slice x.la x.m.length x.lc) x.bf)] w (DoE B b (doS l x.d) w0) := by
  obtain ⟨K, la, lc, m, A, Bq, C, bf⟩ := x
  show Calls Try.prog 11 #[ptr b, u, .agg (box K A Bq C (.slice la m.length lc) bf)] w (DoE B b (doS l ⟨K, m, A, Bq, C, bf⟩) w0)
  by_cases k0 : K = 0
  · subst k0; exact do_0 h hm A Bq C bf hA hB hb
  by_cases k1 : K = 1
  · subst k1; exact do_1 h hm A Bq C bf hA hB hb
  by_cases k2 : K = 2
  · subst k2; exact do_2 h hm A Bq C bf hA hB hb
  by_cases k3 : K = 3
  · subst k3; exact do_3 h hm A Bq C bf hA hB hb
  by_cases k4 : K = 4
  · subst k4; exact do_4 h hm A Bq C bf hA hB hb
  by_cases k5 : K = 5
  · subst k5; exact do_5 h hm A Bq C bf hA hB hb
  by_cases k6 : K = 6
  · subst k6; exact do_6 h hm A Bq C bf hA hB hb
  by_cases k7 : K = 7
  · subst k7; exact do_7 h hm A Bq C bf hA hB hb
  exact do_else h hm K A Bq C bf (by simpa using k0) (by simpa using k1) (by simpa using k2) (by simpa using k3) (by simpa using k4) (by simpa using k5) (by simpa using k6) (by simpa using k7) hA hB hb
set_option maxHeartbeats 4000000 in
set_option maxRecDepth 100000 in
theorem does_call {w : World} {u dv : Value} {l : List El} {ds : List DD} (h : SL (fun k => k < w.heap.size) w u l) (hi0 : ∀ n ∈ l, -9223372036854775808 ≤ n ∧ n ≤ 9223372036854775807) (hd : DSl w dv ds) (hb : l.length + wts ds ≤ 1048576) :
    Calls Try.prog 3 #[u, dv] w fun e w' => e = .returned (.bool true) ∧ Below w.heap.size w w' := by
  obtain ⟨B, hB⟩ : ∃ B, B = w.heap.size := ⟨_, rfl⟩
  have hdl := wts_len ds
  have HOK := hid_of hd.ok
  rw [← hB] at h ⊢
  have HB := hid_of hB
  have HO := hid_of (of_call h (by omega))
  have HU := hid_of (fun (W : World) (b : Below B w W) => SL.later h b)
  obtain ⟨a1, c1, rfl, hc1, _⟩ := h
  obtain ⟨da, dc, rfl, hat⟩ := hd.at'
  have HAT := hid_of hat
  have HBd := hid_of hb
  obtain ⟨N, HN⟩ : ∃ N, Hid (N = ds.length) := ⟨_, hid_of rfl⟩
  have hN : N ≤ 1048576 := by rw [HN.out]; omega
  rw [← HN.out]
  clear hB hat hb hd hdl hi0 hc1
  go_enter Try.func3, Try.ntmps3
  go_wp2_with fail
  refine HO.out.mono ?_
  rintro e w1 ⟨b, rfl, q1, k1⟩
  have E1 : Hid (At B b l w w1) := At.of (w1 := w) q1 (Below.refl _ _) k1 (by rw [HB.out]; exact Nat.le_refl _)
  have HA := hid_of (awake_call w1)
  clear q1 k1
  go_wp2_with fail
  refine HA.out.mono ?_
  rintro e w2 ⟨rfl, k2⟩
  have E2 := hid_of (E1.out.read k2)
  have S2 : Hid (Sx (fun k => B ≤ k ∧ k < w2.heap.size) B b l (.slice a1 l.length c1) w w2) := ⟨DQ.low E2.out.ud, (HU.out _ E2.out.bl).mono fun k _ e c => e c.1, fun k e => e, E2.out.bl, E2.out.sz⟩
  clear k2
  go_wp2_with fail
  go_loopg [6, 7] N (fun g s6 s7 wx => ∃ (i : Nat) (l' : List El) (ua : Option Addr) (un uc : Nat), i ≤ N ∧ N ≤ i + g ∧ s6 = .slice ua un uc ∧ s7 = .int .i64 (i : Int) ∧ Hid (l'.length ≤ l.length + wts (ds.take i) ∧ ∃ F, Sx F B b l' (.slice ua un uc) w wx))
  case atStart => exact ⟨0, l, a1, l.length, c1, by omega, by omega, rfl, rfl, ⟨by omega, _, S2.out⟩⟩
  case round =>
    obtain ⟨i, l', ua, un, uc, hi, hg, rfl, rfl, R⟩ := hrel
    by_cases hlt : i < N
    · obtain ⟨g', rfl⟩ : ∃ g', gk = g' + 1 := ⟨gk - 1, by omega⟩
      have hil : i < ds.length := by rw [← HN.out]; exact hlt
      obtain ⟨gd, od, rfl, hcc⟩ : ∃ g o, da = some ⟨g, o, none⟩ ∧ ∀ i x, ds[i]? = some x → DCell w g (o + i * 6) x := by
        rcases HAT.out with e | q
        · rw [e] at hil; simp at hil
        · exact q
      have hc := hcc i _ (List.getElem?_eq_getElem hil)
      have hok := HOK.out _ (List.getElem_mem hil)
      have ht := wts_take ds i hil
      have hle := wts_le ds (i + 1)
      obtain ⟨hll, F, S⟩ := R.out
      have hbd := HBd.out
      obtain ⟨x, HX⟩ : ∃ x, Hid (x = ds[i]) := ⟨_, hid_of rfl⟩
      rw [← HX.out] at hc hok ht
      have hgB : gd < w.heap.size := cell_lt hc.c0
      rw [← HB.out] at hgB
      have hcr : ∀ o v, w.cell? ⟨gd, o, none⟩ = some v → wr.cell? ⟨gd, o, none⟩ = some v := fun o v e => (World.cell?_of_block (w := w) (S.bl.block gd hgB)).trans e
      have d0 := hcr _ _ hc.c0
      have d1 := hcr _ _ hc.c1
      have d2 := hcr _ _ hc.c2
      have d3 := hcr _ _ hc.c3
      have d4 := hcr _ _ hc.c4
      have d5 := hcr _ _ hc.c5
      have hwx : x.wt = x.m.length + 1 := rfl
      have hsl : SL (fun k => k < w.heap.size) w (.slice x.la x.m.length x.lc) x.m := hok.sl
      rw [← HB.out] at hsl
      have hDo := do_any S x (hsl.keep fun k _ hk => S.bl.block k hk) hok.ia hok.ib (by omega)
      have hlen := doS_len l' x.d
      have HDo := hid_of hDo
      have HLn := hid_of (show (doS l' x.d).length ≤ l.length + wts (ds.take (i + 1)) by rw [ht, hwx]; have : x.d.L = x.m := rfl; rw [this] at hlen; omega)
      have HL2 := hid_of (show (doS l' x.d).length ≤ 1048576 by have := HLn.out; omega)
      generalize doS l' x.d = l2 at *
      obtain ⟨K, la, lc, m, A, Bq, C, bf⟩ := x
      dsimp only at d0 d1 d2 d3 d4 d5 HDo
      clear R S hcc hc hok ht hle hll hbd hcr hwx hsl hDo hlen
      go_wp2_with fail
      refine HDo.out.mono ?_
      rintro e w3 ⟨r3, rfl, F3, S3⟩
      obtain ⟨ra, rc, rfl, _, _⟩ := id S3.sl
      have E3 := hid_of S3
      have HLe := hid_of (len_call S3.dq)
      clear S3
      go_wp2_with fail
      refine HLe.out.mono ?_
      rintro e w4 ⟨rfl, m4, rfl⟩
      have E4 := hid_of (E3.out.drewN m4)
      have HLi := hid_of (list_call E4.out.dq (by have := HL2.out; omega))
      go_wp2_with fail
      refine HLi.out.mono ?_
      rintro e w5 ⟨v5, rfl, n5, k5⟩
      have E5 := hid_of (E4.out.read k5)
      have HS := hid_of (same_call n5.sl E5.out.sl rfl (by have := HL2.out; omega))
      clear n5 k5
      go_wp2_with fail
      refine HS.out.mono ?_
      rintro e w6 ⟨rfl, m6, rfl⟩
      have E6 := hid_of (E5.out.drewN m6)
      go_wp2_with fail
      go_roundg g'
      case measure => omega
      case rel => exact ⟨i + 1, l2, ra, l2.length, rc, by omega, by omega, rfl, by simp, ⟨HLn.out, F3, E6.out⟩⟩
    · have HF := hid_of R.out
      clear R
      go_wp2_with fail
      go_ret
      obtain ⟨_, F, S⟩ := HF.out
      exact ⟨rfl, S.bl⟩
end Go.Proofs.Ytdmjfmojacnbeaa.Does
