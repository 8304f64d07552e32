/- Like: what both disks tell. -/
import Derived.Test.YtilbffbmpgebmaaPair
import Derived.Test.YtilbffbmpgebmaaNone2
import Derived.Test.YtilbffbmpgebmaaOps3
import Derived.Deep.Upon
import Derived.Deep.RegionHeld3
namespace Go.Proofs.Ytilbffbmpgebmaa.Like
open Go.RowKit Go.Maps Go.Sort
open Go.Proofs.Ytilbffbmpgebmaa.DiskMath
open Go.Proofs.Ytilbffbmpgebmaa.RefMath
open Go.Proofs.Ytilbffbmpgebmaa.Base
open Go.Proofs.Ytilbffbmpgebmaa.Small
open Go.Proofs.Ytilbffbmpgebmaa.File
open Go.Proofs.Ytilbffbmpgebmaa.File2
open Go.Proofs.Ytilbffbmpgebmaa.Append
open Go.Proofs.Ytilbffbmpgebmaa.Crash
open Go.Proofs.Ytilbffbmpgebmaa.Ops3
open Go.Proofs.Ytilbffbmpgebmaa.None
open Go.Proofs.Ytilbffbmpgebmaa.None2
open Go.Proofs.Ytilbffbmpgebmaa.Plan
open Go.Proofs.Ytilbffbmpgebmaa.Plan2
open Go.Proofs.Ytilbffbmpgebmaa.RefBase
open Go.Proofs.Ytilbffbmpgebmaa.RefFiles
open Go.Proofs.Ytilbffbmpgebmaa.RefTexts
open Go.Proofs.Ytilbffbmpgebmaa.Pair
set_option linter.unusedVariables false

theorem sr_ot {w wx : World} {l : List Bs} {v : Value} (h : OT w l v wx) : SR wx v l := by
  rcases h.1.2 with ⟨e, h0⟩ | ⟨g, cap, cur, e, _⟩
  · have hl : l = [] := List.length_eq_zero_iff.1 h0
    subst hl
    exact ⟨_, _, e, Or.inl rfl⟩
  · subst e
    exact sr_row h.1
theorem sr_below {w w' : World} {v : Value} {l : List Bs} (h : SR w v l) (hb : Below w.heap.size w w') : SR w' v l := sr_cells h fun a x hx => cell_on hb hx
theorem keys_len (l : NL) : (keys l).length = l.length := by unfold keys; simp
theorem told_le (d : Dk) (t : Bool) : (told d t).length ≤ (listOf d t).length := by
  unfold told
  split
  · exact Nat.zero_le _
  · rw [keys_len]; exact Nat.le_refl _
set_option maxRecDepth 100000 in
theorem names_any (base b : Nat) (d : Dk) (w : World) (h : Has base b d w) (h40 : d.steps < 1099511627776) :
    Calls Try.prog 14 #[ptr b] w fun e w' => ∃ v, e = .returned v ∧ SR w' v (told d false) ∧ Below w.heap.size w w' := by
  obtain ⟨y, h⟩ := h
  cases hd : d.down with
  | false =>
    refine (names_call base b y d w h hd h40).mono ?_
    rintro e w' ⟨g, cap, rfl, hr, hb⟩
    refine ⟨_, rfl, ?_, hb⟩
    have e : told d false = keys d.names := by unfold told listOf; rw [hd]; rfl
    rw [e]
    rw [← keys_len] at hr ⊢
    exact sr_row hr
  | true =>
    have H1 := hid_of (refuse_any base b y d w h (.slice none 0 0) false (Try.slices_Contains_string_empty none 0 ⟨#[]⟩ w))
    rw [hd, if_pos rfl] at H1
    have e : told d false = [] := by unfold told; rw [hd]; rfl
    rw [e]
    clear h hd h40 e
    unfold ptr at H1 ⊢
    go_enter Try.func14, Try.ntmps14
    go_wp2_with fail
    refine H1.out.mono ?_
    rintro e w1 ⟨rfl, rfl⟩
    go_wp2_with fail
    go_ret
    exact ⟨_, rfl, ⟨none, 0, rfl, Or.inl rfl⟩, Below.refl _ _⟩
set_option maxRecDepth 100000 in
theorem lasting_any (base b : Nat) (d : Dk) (w : World) (h : Has base b d w) (h40 : d.steps < 1099511627776) :
    Calls Try.prog 20 #[ptr b] w fun e w' => ∃ v, e = .returned v ∧ SR w' v (told d true) ∧ Below w.heap.size w w' := by
  obtain ⟨y, h⟩ := h
  cases hd : d.down with
  | false =>
    refine (lasting_call base b y d w h hd h40).mono ?_
    rintro e w' ⟨g, cap, rfl, hr, hb⟩
    refine ⟨_, rfl, ?_, hb⟩
    have e : told d true = keys d.last := by unfold told listOf; rw [hd]; rfl
    rw [e]
    rw [← keys_len] at hr ⊢
    exact sr_row hr
  | true =>
    have H1 := hid_of (refuse_any base b y d w h (.slice none 0 0) false (Try.slices_Contains_string_empty none 0 ⟨#[]⟩ w))
    rw [hd, if_pos rfl] at H1
    have e : told d true = [] := by unfold told; rw [hd]; rfl
    rw [e]
    clear h hd h40 e
    unfold ptr at H1 ⊢
    go_enter Try.func20, Try.ntmps20
    go_wp2_with fail
    refine H1.out.mono ?_
    rintro e w1 ⟨rfl, rfl⟩
    go_wp2_with fail
    go_ret
    exact ⟨_, rfl, ⟨none, 0, rfl, Or.inl rfl⟩, Below.refl _ _⟩
theorem texts_same (v u : Value) (x : List Bs) (w : World) (hv : SR w v x) (hu : SR w u x) (hx : x.length ≤ 1099511627776) :
    Calls Try.prog 19 #[v, u] w fun e w' => e = .returned (.bool true) ∧ Below w.heap.size w w' := by
  refine (texts_call v u x x w hv hu hx).mono ?_
  rintro e w' ⟨rfl, n, rfl⟩
  refine ⟨by simp, rfl, rfl, rfl, Nat.le_refl _, fun _ _ => rfl⟩
theorem ot_grown {w0 w w' : World} {l ns : List Bs} {v v' : Value} (h : OT w0 l v w) (h1 : w'.ownsRow w0.heap.size 9 1 v' (l.length + ns.length) (l.map encStr ++ ns.map encStr)) (h2 : w.grownBy w' v.ownBlock) : OT w0 (l ++ ns) v' w' := by
  refine ⟨?_, h.2.grown h2 h.2.size (fun k hk => (h.1.lt k hk).1)⟩
  rw [List.length_append, List.map_append]
  exact h1
theorem app_txt (w0 w : World) (l ns : List Bs) (v nv : Value) (h : OT w0 l v w) (hn : SR w nv ns) (hl : l.length + ns.length ≤ 1099511627776) :
    ∃ v' w', (Builtin.append_ #[43, 43] 43 #[v, nv]).run Try.prog w = .ok v' w' ∧ OT w0 (l ++ ns) v' w' := by
  obtain ⟨i, hi, hz0, hz1, hz2⟩ := parts info9
  obtain ⟨a, c, rfl, hc⟩ := hn
  cases a with
  | none =>
    have h0 : ns = [] := by
      rcases hc with h | ⟨g, o, e, _⟩
      · exact h
      · cases e
    subst h0
    rcases h.1.2 with ⟨e, h1⟩ | ⟨g, cap, cur, e, _, _, hle, _⟩
    · subst e
      refine ⟨_, _, run_append_nothing (P := Try.prog) w 43 43 43 9 i Try.underlying43 hi none 0 0 (Nat.le_refl _) _ (Src.ofNil w Try.underlying43 c), ?_⟩
      rw [List.append_nil]; exact h
    · subst e
      refine ⟨_, _, run_append_nothing (P := Try.prog) w 43 43 43 9 i Try.underlying43 hi _ _ _ hle _ (Src.ofNil w Try.underlying43 c), ?_⟩
      rw [List.append_nil]; exact h
  | some ad =>
    have hnews : ∀ j u, (ns.map encStr)[j]? = some u → w.cell? (ad.add j) = some u := by
      intro j u hj
      rcases hc with h | ⟨g, o, e, hc⟩
      · subst h; simp at hj
      · cases e
        rw [List.getElem?_map] at hj
        cases hq : ns[j]? with
        | none => rw [hq] at hj; cases hj
        | some x =>
          rw [hq] at hj
          obtain ⟨hlt, hx⟩ := List.getElem?_eq_some_iff.1 hq
          have := hc j hlt
          rw [hx] at this
          simp at hj
          rw [← hj, Addr.add_lit]
          exact this
    obtain ⟨v', w', hr, ho, hg, _⟩ := run_append_own (P := Try.prog) (w := w) w0.heap.size 43 43 9 i _ 1 16 Try.underlying43 hi hz0 hz1 hz2 rfl (by decide) v l.length (l.map encStr) h.1 ad ns.length c (ns.map encStr) (by simp) hnews (fun u hu => by obtain ⟨x, _, rfl⟩ := List.mem_map.1 hu; rfl) (by unfold maxLen; omega) (by omega) h.2.size
    exact ⟨v', w', hr, ot_grown h ho hg⟩
theorem bn (B : Nat) (w W W' : World) (h : Below B w W) (h2 : Below W.heap.size W W') (hB : B ≤ W.heap.size) : Below B w W' := h.trans (h2.mono hB)
theorem read_has (base b : Nat) (d : Dk) (s : ByteArray) (W : World) (h : Has base b d W) (hs : s.size ≤ 281474976710656) :
    Calls Try.prog 15 #[ptr b, .string s] W fun e w' => e = .returned (.tuple #[.string (mk (d.read (bs s)).1), .int .i64 (d.read (bs s)).2]) ∧ Below W.heap.size W w' := by
  obtain ⟨y, h⟩ := h
  exact read_call base b y d W h s hs
theorem synced_has (base b : Nat) (d : Dk) (s : ByteArray) (W : World) (h : Has base b d W) (hs : s.size ≤ 281474976710656) :
    Calls Try.prog 16 #[ptr b, .string s] W fun e w' => e = .returned (.tuple #[.int .i64 (d.synced (bs s)).1, .int .i64 (d.synced (bs s)).2]) ∧ Below W.heap.size W w' := by
  obtain ⟨y, h⟩ := h
  exact synced_call base b y d W h s hs
theorem steps_has (base b : Nat) (d : Dk) (W : World) (h : Has base b d W) : Calls Try.prog 25 #[ptr b] W fun e w' => e = .returned (.int .i64 (d.steps : Int)) ∧ w' = W := by
  obtain ⟨y, h⟩ := h
  exact steps_call base b y d W h
theorem down_has (base b : Nat) (d : Dk) (W : World) (h : Has base b d W) : Calls Try.prog 24 #[ptr b] W fun e w' => e = .returned (.bool d.down) ∧ w' = W := by
  obtain ⟨y, h⟩ := h
  exact down_call base b y d W h
set_option maxHeartbeats 4000000 in
set_option maxRecDepth 100000 in
theorem like_call (base b bd : Nat) (d : Dk) (n T : Nat) (nv : Value) (ns : List Bs) (w : World) (hp : Pr base b bd d n T w) (hn : n < 1000000000) (hN : SR w nv ns) (hns : ns.length ≤ 2) (hnl : ∀ x ∈ ns, x.length ≤ 281474976710656) :
    Calls Try.prog 11 #[ptr b, ptr bd, nv] w fun e w' => e = .returned (.bool true) ∧ Below w.heap.size w w' := by
  have ok := hp.ok
  have h40 : d.steps < 1099511627776 := by have := hp.iv.st; omega
  have hnm : d.names.length < 1099511627776 := by have := ok.nlen; omega
  have hls : d.last.length < 1099511627776 := by have := ok.llen; omega
  have hst : d.steps < 1000000000 := by have := hp.iv.st; omega
  obtain ⟨r, hr⟩ := hp.rd
  have hd := hp.dk
  have HT : Hid (∀ t W, Below w.heap.size w W → Calls Try.prog 39 #[ptr bd, .bool t] W fun e w' => ∃ v, e = .returned v ∧ OT W (told d t) v w') := fun t W hb => rtexts_call base bd r d t W (hr.below hb) (by cases t; exact hnm; exact hls)
  have HNM : Hid (∀ W, Below w.heap.size w W → Calls Try.prog 14 #[ptr b] W fun e w' => ∃ v, e = .returned v ∧ SR w' v (told d false) ∧ Below W.heap.size W w') := fun W hb => names_any base b d W (hd.below hb) h40
  have HLS : Hid (∀ W, Below w.heap.size w W → Calls Try.prog 20 #[ptr b] W fun e w' => ∃ v, e = .returned v ∧ SR w' v (told d true) ∧ Below W.heap.size W w') := fun W hb => lasting_any base b d W (hd.below hb) h40
  have HST : Hid (∀ W, Below w.heap.size w W → Calls Try.prog 25 #[ptr b] W fun e w' => e = .returned (.int .i64 (d.steps : Int)) ∧ w' = W) := fun W hb => steps_has base b d W (hd.below hb)
  have HDN : Hid (∀ W, Below w.heap.size w W → Calls Try.prog 24 #[ptr b] W fun e w' => e = .returned (.bool d.down) ∧ w' = W) := fun W hb => down_has base b d W (hd.below hb)
  have HRD : Hid (∀ s : ByteArray, s.size ≤ 281474976710656 → ∃ RS RE, (∀ W, Below w.heap.size w W → Calls Try.prog 15 #[ptr b, .string s] W fun e w' => e = .returned (.tuple #[.string RS, .int .i64 RE]) ∧ Below W.heap.size W w') ∧ (∀ W, Below w.heap.size w W → Calls Try.prog 40 #[ptr bd, .string s] W fun e w' => e = .returned (.tuple #[.string RS, .int .i64 RE]) ∧ w' = W)) := fun s hs => ⟨_, _, fun W hb => read_has base b d s W (hd.below hb) hs, fun W hb => rread_call base bd r d s W (hr.below hb) ok hnm⟩
  have HSY : Hid (∀ s : ByteArray, s.size ≤ 281474976710656 → ∃ RN RE, (∀ W, Below w.heap.size w W → Calls Try.prog 16 #[ptr b, .string s] W fun e w' => e = .returned (.tuple #[.int .i64 RN, .int .i64 RE]) ∧ Below W.heap.size W w') ∧ (∀ W, Below w.heap.size w W → Calls Try.prog 41 #[ptr bd, .string s] W fun e w' => e = .returned (.tuple #[.int .i64 RN, .int .i64 RE]) ∧ w' = W)) := fun s hs => ⟨_, _, fun W hb => synced_has base b d s W (hd.below hb) hs, fun W hb => rsynced_call base bd r d s W (hr.below hb) ok hnm⟩
  have HC : Hid (∀ W, Below w.heap.size w W → W.cell? ⟨bd, 5, none⟩ = some (.int .i64 (d.steps : Int)) ∧ W.cell? ⟨bd, 6, none⟩ = some (.bool d.down)) := fun W hb => ⟨(hr.below hb).cell 5, (hr.below hb).cell 6⟩
  have HTX : Hid (∀ (t : Bool) (W : World) (v u : Value), SR W v (told d t) → SR W u (told d t) → Calls Try.prog 19 #[v, u] W fun e w' => e = .returned (.bool true) ∧ Below W.heap.size W w') := fun t W v u hv hu => texts_same v u _ W hv hu (by have := told_le d t; cases t; exact Nat.le_trans this (Nat.le_of_lt hnm); exact Nat.le_trans this (Nat.le_of_lt hls))
  have hl0 : (told d false).length + ns.length ≤ 1099511627776 := by have : (told d false).length ≤ d.names.length := told_le d false; have := ok.nlen; omega
  have hbd : ∀ x ∈ told d false ++ ns, x.length ≤ 281474976710656 := by
    intro x hx
    rcases List.mem_append.1 hx with h | h
    · unfold told at h
      split at h
      · cases h
      · obtain ⟨p, hp, rfl⟩ := List.mem_map.1 h
        exact ok.names.len p hp
    · exact hnl x h
  obtain ⟨LL, hLL⟩ : ∃ LL, LL = told d false ++ ns := ⟨_, rfl⟩
  rw [← hLL] at hbd
  have hN2 : LL.length ≤ 1099511627776 := by rw [hLL, List.length_append]; exact hl0
  have HBD := hid_of hbd
  have HLL := hid_of hLL
  have HN := hid_of hN
  have HL0 := hid_of hl0
  unfold ptr at *
  clear hp hr hd ok hnm hls hbd hLL hN hns hnl h40 hl0
  go_enter Try.func11, Try.ntmps11
  go_wp2_with fail
  refine (HT.out false w (Below.refl _ _)).mono ?_
  rintro e w1 ⟨v1, rfl, ot1⟩
  obtain ⟨v2, w2, hr2, ot2⟩ := app_txt w w1 (told d false) ns v1 nv ot1 (sr_below HN.out ot1.2) HL0.out
  rw [← HLL.out] at ot2
  have B2 := hid_of ot2.2
  obtain ⟨a2, c2, rfl, hcl⟩ := sr_ot ot2
  have HCL := hid_of hcl
  clear ot1 ot2 hcl HL0 HN HLL
  obtain ⟨N, hN⟩ : ∃ N, N = LL.length := ⟨_, rfl⟩
  rw [← hN] at hr2 hN2
  go_wp2_with (at_builtin; refine wpl_eq rfl _ _ 43 43 rfl v1 nv (.slice a2 N c2) w1 w2 rfl rfl hr2 ?_)
  clear hr2
  go_loopg [8] N (fun g si wx => ∃ (k : Nat), k ≤ N ∧ N ≤ k + g ∧ si = .int .i64 k ∧ Hid (Below w2.heap.size w2 wx ∧ Below w.heap.size w wx))
  case atStart => exact ⟨0, by omega, by omega, rfl, Below.refl _ _, B2.out⟩
  case round =>
    obtain ⟨k, hk, hg, rfl, HB⟩ := hrel
    by_cases hlt : k < N
    · obtain ⟨g', rfl⟩ : ∃ g', gk = g' + 1 := ⟨gk - 1, by omega⟩
      have hltl : k < LL.length := by omega
      obtain ⟨g2, o2, rfl, hcc⟩ : ∃ g o, a2 = some ⟨g, o, none⟩ ∧ ∀ k (h : k < LL.length), w2.cell? ⟨g, o + k, none⟩ = some (encStr (LL[k]'h)) := by
        rcases HCL.out with h | h
        · subst h; simp at hltl
        · exact h
      obtain ⟨p, hpe⟩ : ∃ p, p = mk (LL[k]'hltl) := ⟨_, rfl⟩
      have hpz : p.size ≤ 281474976710656 := by rw [hpe, mk_size]; exact HBD.out _ (List.getElem_mem hltl)
      have c0 : w2.cell? ⟨g2, o2 + k, none⟩ = some (.string p) := by rw [hpe]; exact hcc k hltl
      have HP := hid_of c0
      have q0 : wr.cell? ⟨g2, o2 + k, none⟩ = some (.string p) := cell_on HB.out.1 c0
      obtain ⟨RS, RE, hr1, hr2⟩ := HRD.out p hpz
      obtain ⟨RN, RF, hs1, hs2⟩ := HSY.out p hpz
      have HR1 := hid_of hr1
      have HR2 := hid_of hr2
      have HS1 := hid_of hs1
      have HS2 := hid_of hs2
      have gi : (k : Int) < (N : Int) := by omega
      have ew : IntKind.i64.wrap ((k : Int) + 1) = (k : Int) + 1 := IntWalk.i64_in _ (by omega)
      have e1 : (RS.toList != RS.toList) = false := by simp
      have e2 : (RE != RE) = false := by simp
      have e3 : (RN != RN) = false := by simp
      have e4 : (RF != RF) = false := by simp
      clear hcc hpe c0 hr1 hr2 hs1 hs2 hpz
      go_wp2_with fail
      refine (HR1.out _ HB.out.2).mono ?_
      rintro e w3 ⟨rfl, b3⟩
      have B3 := hid_of (And.intro (bn _ _ _ _ HB.out.1 b3 HB.out.1.size) (bn _ _ _ _ HB.out.2 b3 HB.out.2.size))
      have q3 : w3.cell? ⟨g2, o2 + k, none⟩ = some (.string p) := cell_on b3 q0
      clear b3
      go_wp2_with fail
      refine (HR2.out _ B3.out.2).mono ?_
      rintro e w4 ⟨rfl, h4⟩
      subst h4
      go_wp2_with fail
      refine (HS1.out _ B3.out.2).mono ?_
      rintro e w5 ⟨rfl, b5⟩
      have B5 := hid_of (And.intro (bn _ _ _ _ B3.out.1 b5 B3.out.1.size) (bn _ _ _ _ B3.out.2 b5 B3.out.2.size))
      have q5 : w5.cell? ⟨g2, o2 + k, none⟩ = some (.string p) := cell_on B5.out.1 HP.out
      clear b5
      go_wp2_with fail
      refine (HS2.out _ B5.out.2).mono ?_
      rintro e w6 ⟨rfl, h6⟩
      subst h6
      go_wp2_with fail
      go_roundg g'
      case measure => omega
      case rel => exact ⟨k + 1, by omega, by omega, by rw [show ((k + 1 : Nat) : Int) = (k : Int) + 1 from by omega], B5⟩
    · obtain rfl : k = N := by omega
      have gi : ¬ (k : Int) < (k : Int) := by omega
      have Y0 := hid_of HB.out.2
      have s1 : ((d.steps : Int) == (d.steps : Int)) = true := by simp
      have s2 : (d.down == d.down) = true := by simp
      go_wp2_with fail
      go_region_held3 (fun W => W.cell? ⟨bd, 5, none⟩ = some (.int .i64 (d.steps : Int)) ∧ W.cell? ⟨bd, 6, none⟩ = some (.bool d.down)) (first | exact HC.out _ Y6.out | exact HC.out _ Y5.out | exact HC.out _ Y4.out | exact HC.out _ Y3.out | exact HC.out _ Y2.out | exact HC.out _ Y1.out | exact HC.out _ Y0.out | exact HC.out _ Y0.out.drew) (first
        | (go_at_call 14; refine Calls.mono (HNM.out _ Y0.out.drew) ?_; rintro e z1 ⟨u1, rfl, sr1, y1⟩; have Y1 := hid_of (bn _ _ _ _ Y0.out.drew y1 Y0.out.drew.size); have S1 := hid_of sr1; clear sr1 y1)
        | (go_at_call_of 39 (Value.bool false); refine Calls.mono (HT.out false _ Y1.out) ?_; rintro e z2 ⟨u2, rfl, ot⟩; have Y2 := hid_of (bn _ _ _ _ Y1.out ot.2 Y1.out.size); have S2 := hid_of (And.intro (sr_below S1.out ot.2) (sr_ot ot)); clear ot)
        | (go_at_call_of 19 u2; refine Calls.mono (HTX.out false _ _ _ S2.out.1 S2.out.2) ?_; rintro e z3 ⟨rfl, y3⟩; have Y3 := hid_of (bn _ _ _ _ Y2.out y3 Y2.out.size); clear y3)
        | (go_at_call 20; refine Calls.mono (HLS.out _ Y3.out) ?_; rintro e z4 ⟨u4, rfl, sr4, y4⟩; have Y4 := hid_of (bn _ _ _ _ Y3.out y4 Y3.out.size); have S4 := hid_of sr4; clear sr4 y4)
        | (go_at_call_of 39 (Value.bool true); refine Calls.mono (HT.out true _ Y4.out) ?_; rintro e z5 ⟨u5, rfl, ot⟩; have Y5 := hid_of (bn _ _ _ _ Y4.out ot.2 Y4.out.size); have S5 := hid_of (And.intro (sr_below S4.out ot.2) (sr_ot ot)); clear ot)
        | (go_at_call_of 19 u5; refine Calls.mono (HTX.out true _ _ _ S5.out.1 S5.out.2) ?_; rintro e z6 ⟨rfl, y6⟩; have Y6 := hid_of (bn _ _ _ _ Y5.out y6 Y5.out.size); clear y6)
        | (go_at_call 25; refine Calls.mono (HST.out _ Y6.out) ?_; rintro e z7 ⟨rfl, h7⟩; subst h7)
        | (go_at_call 24; refine Calls.mono (HDN.out _ Y6.out) ?_; rintro e z8 ⟨rfl, h8⟩; subst h8))
      all_goals
        go_wp2_with fail
        go_ret
        exact ⟨rfl, Y6.out⟩
end Go.Proofs.Ytilbffbmpgebmaa.Like
