/- The law DiskStops: a plan that stops the disk at a step. -/
import Derived.Test.YtilbffbmpgebmaaDeeds
namespace Go.Proofs.Ytilbffbmpgebmaa.Stops
open Go.RowKit Go.Maps
open Go.Proofs.Ytilbffbmpgebmaa.DiskMath
open Go.Proofs.Ytilbffbmpgebmaa.RefMath
open Go.Proofs.Ytilbffbmpgebmaa.Base
open Go.Proofs.Ytilbffbmpgebmaa.Small
open Go.Proofs.Ytilbffbmpgebmaa.File
open Go.Proofs.Ytilbffbmpgebmaa.File2
open Go.Proofs.Ytilbffbmpgebmaa.Ops
open Go.Proofs.Ytilbffbmpgebmaa.Step
open Go.Proofs.Ytilbffbmpgebmaa.Crash
open Go.Proofs.Ytilbffbmpgebmaa.Crash2
open Go.Proofs.Ytilbffbmpgebmaa.Plan
open Go.Proofs.Ytilbffbmpgebmaa.Plan2
open Go.Proofs.Ytilbffbmpgebmaa.None2
open Go.Proofs.Ytilbffbmpgebmaa.RefBase
open Go.Proofs.Ytilbffbmpgebmaa.RefChange
open Go.Proofs.Ytilbffbmpgebmaa.RefFiles
open Go.Proofs.Ytilbffbmpgebmaa.RefSet
open Go.Proofs.Ytilbffbmpgebmaa.RefCrash
open Go.Proofs.Ytilbffbmpgebmaa.RefTexts
open Go.Proofs.Ytilbffbmpgebmaa.Pair
open Go.Proofs.Ytilbffbmpgebmaa.Like
open Go.Proofs.Ytilbffbmpgebmaa.Deeds
set_option linter.unusedVariables false
set_option linter.unusedSimpArgs false

/- ahead of the step that stops it, or down at that step -/
def St (d : Dk) (s : Nat) : Prop := (d.down = false ∧ d.plan = [⟨s, 3, 0⟩] ∧ d.steps < s) ∨ (d.down = true ∧ d.steps = s)
def Same3 (d e : Dk) : Prop := e.down = d.down ∧ e.plan = d.plan ∧ e.steps = d.steps
theorem st_same {d e : Dk} {s : Nat} (h : St d s) (hs : Same3 d e) : St e s := by
  obtain ⟨h1, h2, h3⟩ := hs
  unfold St
  rw [h1, h2, h3]
  exact h
theorem st_fault {d : Dk} {s : Nat} (h : St d s) (hd : d.down = false) : St d.fault.1 s := by
  rcases h with ⟨h1, h2, h3⟩ | ⟨h1, _⟩
  · unfold Dk.fault
    rw [h2]
    dsimp only
    by_cases e : (s : Int) = (d.steps : Int) + 1
    · rw [if_pos e, if_pos rfl]
      exact Or.inr ⟨rfl, by show d.steps + 1 = s; omega⟩
    · rw [if_neg e]
      exact Or.inl ⟨h1, rfl, by show d.steps + 1 < s; omega⟩
  · rw [hd] at h1; cases h1
/- a call leaves the disk as it was, or takes one step while it is not down -/
def Goes (d e : Dk) : Prop := e = d ∨ (d.down = false ∧ Same3 d.fault.1 e)
theorem st_goes {d e : Dk} {s : Nat} (h : St d s) (hg : Goes d e) : St e s := by
  rcases hg with rfl | ⟨hd, hs⟩
  · exact h
  · exact st_same (st_fault h hd) hs
theorem asked_down {d : Dk} (h : d.down = true) (n : Bs) : d.asked n = 53 := by unfold Dk.asked; rw [h]; rfl
theorem not_down {d : Dk} {n : Bs} (h : d.asked n ≠ 53) : d.down = false := by
  cases hd : d.down with
  | false => rfl
  | true => exact absurd (asked_down hd n) h
theorem goes_create (d : Dk) (n : Bs) : Goes d (d.create n).1 := by
  unfold Dk.create
  split
  · exact Or.inl rfl
  · split
    · exact Or.inl rfl
    · rename_i h1 h2
      refine Or.inr ⟨not_down (n := n) (by omega), ?_⟩
      dsimp only
      split <;> exact ⟨rfl, rfl, rfl⟩
theorem goes_append (d : Dk) (n s : Bs) : Goes d (d.append n s).1 := by
  unfold Dk.append
  split
  · exact Or.inl rfl
  · rename_i h1
    exact Or.inr ⟨not_down (n := n) (by omega), rfl, rfl, rfl⟩
theorem goes_trunc (d : Dk) (n : Bs) (k : Int) : Goes d (d.trunc n k).1 := by
  unfold Dk.trunc
  split
  · exact Or.inl rfl
  · rename_i h1
    refine Or.inr ⟨not_down (n := n) (by omega), ?_⟩
    dsimp only
    split <;> exact ⟨rfl, rfl, rfl⟩
theorem goes_sync (d : Dk) (n : Bs) : Goes d (d.sync n).1 := by
  unfold Dk.sync
  split
  · exact Or.inl rfl
  · rename_i h1
    refine Or.inr ⟨not_down (n := n) (by omega), ?_⟩
    dsimp only
    split <;> exact ⟨rfl, rfl, rfl⟩
theorem goes_rename (d : Dk) (a b : Bs) : Goes d (d.rename a b).1 := by
  unfold Dk.rename
  split
  · exact Or.inl rfl
  · split
    · exact Or.inl rfl
    · rename_i h0 h1
      refine Or.inr ⟨not_down (n := a) (by omega), ?_⟩
      dsimp only
      split
      · split <;> exact ⟨rfl, rfl, rfl⟩
      · exact ⟨rfl, rfl, rfl⟩
theorem goes_remove (d : Dk) (n : Bs) : Goes d (d.remove n).1 := by
  unfold Dk.remove
  split
  · exact Or.inl rfl
  · rename_i h1
    refine Or.inr ⟨not_down (n := n) (by omega), ?_⟩
    dsimp only
    split <;> exact ⟨rfl, rfl, rfl⟩
theorem goes_syncNames (d : Dk) : Goes d d.syncNames.1 := by
  unfold Dk.syncNames
  split
  · exact Or.inl rfl
  · rename_i h1
    have hd : d.down = false := by
      cases hd : d.down with
      | false => rfl
      | true => exact absurd (by unfold Dk.refuse; rw [hd]; decide) h1
    refine Or.inr ⟨hd, ?_⟩
    dsimp only
    split <;> exact ⟨rfl, rfl, rfl⟩
theorem st_do {d : Dk} {s : Nat} (x : DD) (hk : x.k < 7) (h : St d s) : St (doS x d) s := by
  refine st_goes h ?_
  unfold doS
  split
  · exact goes_create _ _
  split
  · exact goes_append _ _ _
  split
  · exact goes_trunc _ _ _
  split
  · exact goes_sync _ _
  split
  · exact goes_rename _ _ _
  split
  · exact goes_remove _ _
  split
  · exact goes_syncNames _
  split
  · omega
  split
  · omega
  · exact Or.inl rfl
def dS (s : Nat) : Dk := { new with plan := [⟨s, 3, 0⟩] }
theorem set_one (s : Nat) (h : 1 ≤ s) : setS new [⟨s, 3, 0⟩] = (dS s, 0) := by
  have h2 : ¬ ((s : Int) ≤ 0) := by omega
  unfold setS
  rw [if_neg]
  · rfl
  · rintro (h | h | h)
    · simp at h
    · simp [risesB, new, h2] at h
      omega
    · simp [imp] at h
theorem st_new (s : Nat) (h : 1 ≤ s) : St (dS s) s := Or.inl ⟨rfl, rfl, by show 0 < s; omega⟩
theorem iv_one (s : Nat) : Iv (dS s) 0 0 := ⟨rfl, Nat.le_refl _, Nat.le_refl _, fun x hx => by cases hx⟩
theorem ft_one (w : World) (x : Int) : FtSl (w.alloc (.cells #[.int .i64 x, .int .i64 3, .int .i64 0] 58)) (.slice (some ⟨w.heap.size, 0, none⟩) 1 1) [⟨x, 3, 0⟩] := by
  refine ⟨_, _, rfl, Or.inr ⟨w.heap.size, 0, rfl, fun k hk => ?_⟩⟩
  have hn := heap_alloc_new w (.cells #[.int .i64 x, .int .i64 3, .int .i64 0] 58)
  match k, hk with
  | 0, _ => exact ⟨Lib.cell_of_heap hn 0, Lib.cell_of_heap hn 1, Lib.cell_of_heap hn 2⟩
theorem int_one (w W : World) (T : Nat → Bool) (base : Nat) (x : Int) (hT : T 5 = false) (h : Ev T base (w.alloc (.cells #[.int .i64 x] 3)) W) : IntSl W (.slice (some ⟨w.heap.size, 0, none⟩) 1 1) [x] := by
  have hn : W.heap[w.heap.size]? = some (.cells #[.int .i64 x] 3 (0, 0)) := by
    have h0 := heap_alloc_new w (.cells #[.int .i64 x] 3)
    exact (h.block _ (lt_of h0) (Or.inr (by rw [kd_cells h0]; exact hT))).trans h0
  refine ⟨_, _, rfl, Or.inr ⟨w.heap.size, 0, rfl, fun k hk => ?_⟩⟩
  match k, hk with
  | 0, _ => exact Lib.cell_of_heap hn 0
set_option maxRecDepth 100000 in
theorem names_down (base b : Nat) (d : Dk) (w : World) (h : Has base b d w) (hd : d.down = true) : Calls Try.prog 14 #[ptr b] w fun e w' => e = .returned (.slice none 0 0) ∧ w' = w := by
  obtain ⟨y, h⟩ := h
  have H1 := hid_of (refuse_any base b y d w h (.slice none 0 0) false (Try.slices_Contains_string_empty none 0 ⟨#[]⟩ w))
  rw [hd, if_pos rfl] at H1
  clear h hd
  unfold ptr at H1 ⊢
  go_enter Try.func14, Try.ntmps14
  go_wp2_with fail
  refine H1.out.mono ?_
  rintro e w1 ⟨rfl, rfl⟩
  go_wp2_with fail
  go_ret
  exact ⟨rfl, rfl⟩
set_option maxRecDepth 100000 in
theorem lasting_down (base b : Nat) (d : Dk) (w : World) (h : Has base b d w) (hd : d.down = true) : Calls Try.prog 20 #[ptr b] w fun e w' => e = .returned (.slice none 0 0) ∧ w' = w := by
  obtain ⟨y, h⟩ := h
  have H1 := hid_of (refuse_any base b y d w h (.slice none 0 0) false (Try.slices_Contains_string_empty none 0 ⟨#[]⟩ w))
  rw [hd, if_pos rfl] at H1
  clear h hd
  unfold ptr at H1 ⊢
  go_enter Try.func20, Try.ntmps20
  go_wp2_with fail
  refine H1.out.mono ?_
  rintro e w1 ⟨rfl, rfl⟩
  go_wp2_with fail
  go_ret
  exact ⟨rfl, rfl⟩
theorem read_down (base b : Nat) (d : Dk) (s : ByteArray) (w : World) (h : Has base b d w) (hs : s.size ≤ 281474976710656) (hd : d.down = true) : Calls Try.prog 15 #[ptr b, .string s] w fun e w' => e = .returned (.tuple #[.string (mk []), .int .i64 53]) ∧ Below w.heap.size w w' := by
  have h1 := read_has base b d s w h hs
  have e : d.read (bs s) = ([], 53) := by unfold Dk.read; rw [asked_down hd]; rfl
  rw [e] at h1
  exact h1
theorem create_down (base b : Nat) (d : Dk) (s : ByteArray) (w : World) (h : Has base b d w) (hs : s.size ≤ 281474976710656) (h40 : d.steps + 1 < 1099511627776) (hd : d.down = true) : Calls Try.prog 26 #[ptr b, .string s] w fun e w' => e = .returned (.int .i64 53) ∧ Has base b d w' ∧ Ev DT base w w' := by
  obtain ⟨y, h⟩ := h
  have h1 := create_call base b y d w h s hs (step_any base b d (by omega)) h40
  have e : d.create (bs s) = (d, 53) := by unfold Dk.create; rw [asked_down hd]; rfl
  rw [e] at h1
  exact h1
theorem syncNames_down (base b : Nat) (d : Dk) (w : World) (h : Has base b d w) (h40 : d.steps + 1 < 1099511627776) (hd : d.down = true) : Calls Try.prog 27 #[ptr b] w fun e w' => e = .returned (.int .i64 53) ∧ Has base b d w' ∧ Ev DT base w w' := by
  obtain ⟨y, h⟩ := h
  have h1 := syncNames_call base b y d w h (step_any base b d (by omega)) h40
  have e : d.syncNames = (d, 53) := by unfold Dk.syncNames Dk.refuse; rw [hd]; rfl
  rw [e] at h1
  exact h1
theorem sr_none (w : World) : SR w (.slice none 0 0) [] := ⟨none, 0, rfl, Or.inl rfl⟩
set_option maxHeartbeats 4000000 in
set_option maxRecDepth 100000 in
theorem law_in (v : Value) (l : List DD) (w : World) (hD : DSl w v l) (hwt : wts l ≤ 1048576) (s : Nat) (h1 : 1 ≤ s) (h2 : s ≤ 1000) : Calls Try.prog 6 #[v, .int .i64 (s : Int)] w fun e w' => e = .returned (.bool true) ∧ Below w.heap.size w w' := by
  obtain ⟨⟨a, cap, rfl, hat⟩, hok⟩ := hD
  have HN := hid_of (new_call w)
  have HAW := hid_of awake_call
  obtain ⟨base, hbase⟩ : ∃ base, base = w.heap.size := ⟨_, rfl⟩
  have HBS := hid_of hbase
  have HAT := hid_of hat
  have HOK := hid_of hok
  have hlen : l.length ≤ 1048576 := Nat.le_trans (wts_len l) hwt
  have HWT := hid_of hwt
  obtain ⟨n, hn⟩ : ∃ n, n = l.length := ⟨_, rfl⟩
  rw [← hn] at hlen ⊢
  have HLN := hid_of hn
  rw [← hbase] at HN
  unfold ptr at HN
  have hs1 : 1 ≤ s := h1
  have f1 : ¬ ((s : Int) < 1) := by omega
  have f2 : ¬ (1000 < (s : Int)) := by omega
  clear hat hok hwt hn hbase
  go_enter Try.func6, Try.ntmps6
  go_wp2_with fail
  refine HN.out.mono ?_
  rintro e w1 ⟨rfl, hd, b1⟩
  obtain ⟨b, hb⟩ : ∃ b, b = base + 2 := ⟨_, rfl⟩
  rw [← hb] at hd ⊢
  clear hb
  have hbw : base ≤ w1.heap.size := by rw [HBS.out]; exact b1.size
  obtain ⟨bd, hbd⟩ : ∃ bd, bd = w1.heap.size := ⟨_, rfl⟩
  obtain ⟨W1, hW1⟩ : ∃ W1, W1 = w1.alloc (.cells #[.slice none 0 0, .slice none 0 0, .slice none 0 0, .slice none 0 0, .slice none 0 0, .int .i64 0, .bool false] 31) := ⟨_, rfl⟩
  have bA : Below w1.heap.size w1 W1 := by rw [hW1]; exact (Below.refl _ w1).alloc (Nat.le_refl _) _
  have P1 : Hid (Pr base b bd new 0 0 W1) := ⟨by obtain ⟨y, hy⟩ := hd; exact ⟨y, hy.below bA⟩, ⟨_, by rw [hW1, hbd]; exact rd_new base w1 hbw⟩, iv_new⟩
  have B1 : Hid (Below base w W1) := b1.trans (bA.mono hbw)
  clear hd b1 bA hbw HN
  go_wp2_with fail
  rw [← hW1, ← hbd]
  clear hW1 hbd
  refine (HAW.out _).mono ?_
  rintro e w2 ⟨rfl, b2⟩
  obtain ⟨WP, hWP⟩ : ∃ WP, WP = w2.alloc (.cells #[.int .i64 (s : Int), .int .i64 3, .int .i64 0] 58) := ⟨_, rfl⟩
  have bWP : Below w2.heap.size w2 WP := by rw [hWP]; exact (Below.refl _ w2).alloc (Nat.le_refl _) _
  have PP := hid_of ((P1.out.below b2).below bWP)
  have BP : Hid (Below base w WP) := (B1.out.trans (b2.mono P1.out.hb)).trans (bWP.mono (Nat.le_trans P1.out.hb b2.size))
  have hone : setS new [⟨(s : Int), 3, 0⟩] = (dS s, 0) := set_one s hs1
  obtain ⟨dz, hdz⟩ : ∃ dz, dz = dS s := ⟨_, rfl⟩
  rw [← hdz] at hone
  have STZ : Hid (St dz s) := by rw [hdz]; exact st_new s hs1
  have IVZ : Hid (Iv dz 0 0) := by rw [hdz]; exact iv_one s
  have HPL : Hid (Calls Try.prog 22 #[.pointer (some ⟨b, 0, none⟩), .slice (some ⟨w2.heap.size, 0, none⟩) 1 1] WP fun e w' => e = .returned (.int .i64 0) ∧ Has base b dz w' ∧ Ev DT base WP w') := by
    obtain ⟨y, hy⟩ := PP.out.dk
    have h := plan_call base b y new WP hy _ [⟨(s : Int), 3, 0⟩] (by rw [hWP]; exact ft_one w2 _) (fun f hf => by rw [List.mem_singleton.1 hf]; dsimp only; omega)
    rw [hone] at h
    exact h
  have HONE := hid_of hone
  clear b2 bWP hdz hone P1 B1
  go_wp2_with fail
  rw [← hWP]
  clear hWP
  refine HPL.out.mono ?_
  rintro e w3 ⟨rfl, h3, ev3⟩
  obtain ⟨r3, hr3⟩ := rhas_code PP.out.rd ev3
  obtain ⟨WS, hWS⟩ : ∃ WS, WS = w3.alloc (.cells #[.int .i64 (s : Int), .int .i64 3, .int .i64 0] 58) := ⟨_, rfl⟩
  have bWS : Below w3.heap.size w3 WS := by rw [hWS]; exact (Below.refl _ w3).alloc (Nat.le_refl _) _
  have HCS := hid_of (h3.below bWS)
  have BS : Hid (Below base w WS) := (BP.out.trans (ev3.below PP.out.hb)).trans (bWS.mono (Nat.le_trans PP.out.hb ev3.size))
  have HBW : Hid (base ≤ WS.heap.size) := by obtain ⟨y, hy⟩ := HCS.out; exact hy.hb
  have HST : Hid (Calls Try.prog 23 #[.pointer (some ⟨bd, 0, none⟩), .slice (some ⟨w3.heap.size, 0, none⟩) 1 1] WS fun e w' => e = .returned (.int .i64 0) ∧ RHas base bd dz w' ∧ Ev ET base WS w') := by
    have h := rset_call base bd r3 new _ [⟨(s : Int), 3, 0⟩] WS (hr3.below bWS) (by rw [hWS]; exact ft_one w3 _) (by simp)
    rw [HONE.out] at h
    exact h
  clear h3 ev3 hr3 bWS HPL
  go_wp2_with fail
  rw [← hWS]
  clear hWS
  refine HST.out.mono ?_
  rintro e w4 ⟨rfl, h4, ev4⟩
  have P4 : Hid (Pr base b bd dz 0 0 w4) := ⟨has_doc HCS.out ev4, h4, IVZ.out⟩
  have B4 : Hid (Below base w w4) := BS.out.trans (ev4.below HBW.out)
  clear h4 ev4 HST
  go_wp2_with fail
  go_loopg [7] n (fun g si wx => ∃ (k : Nat) (d : Dk), k ≤ n ∧ n ≤ k + g ∧ si = .int .i64 k ∧ Hid (Pr base b bd d k (szs (l.take k)) wx ∧ St d s ∧ Below base w wx))
  case atStart => exact ⟨0, dz, by omega, by omega, rfl, P4.out, STZ.out, B4.out⟩
  case round =>
    obtain ⟨k, d, hk, hg, rfl, R⟩ := hrel
    by_cases hlt : k < n
    · obtain ⟨g', rfl⟩ : ∃ g', gk = g' + 1 := ⟨gk - 1, by omega⟩
      have hltl : k < l.length := by rw [← HLN.out]; exact hlt
      obtain ⟨gb, o, rfl, hcc⟩ : ∃ g o, a = some ⟨g, o, none⟩ ∧ ∀ i (h : i < l.length), DCell w g (o + i * 7) (l[i]'h) := by
        rcases HAT.out with h | h
        · subst h; cases hltl
        · exact h
      have hc := hcc k hltl
      have hox := HOK.out _ (List.getElem_mem hltl)
      have hwx := Nat.le_trans (wts_mem (List.getElem_mem hltl)) HWT.out
      have hT := Nat.le_trans (szs_all l k) (Nat.le_trans (szs_le l) HWT.out)
      have hT1 := szs_take l k hltl
      obtain ⟨T0, hT0⟩ : ∃ T0, T0 = szs (l.take k) := ⟨_, rfl⟩
      rw [← hT0] at hT hT1 R
      obtain ⟨x, hx⟩ : ∃ x, x = l[k] := ⟨_, rfl⟩
      rw [← hx] at hc hox hwx hT1
      have HT1 := hid_of hT1
      obtain ⟨K, A, B, N, fa, fn, fc, cn, ba, bn, bc, fl, bytes⟩ := x
      have HTE : Hid (szs (l.take (k + 1)) = T0 + B.size) := HT1.out
      have HQ := hid_of (hc.below (by rw [← HBS.out]; exact R.out.2.2))
      have q0 : wr.cell? ⟨gb, o + k * 7, none⟩ = some (.int .i64 K) := HQ.out.c0
      have q1 : wr.cell? ⟨gb, o + k * 7 + 1, none⟩ = some (.string A) := HQ.out.c1
      have q2 : wr.cell? ⟨gb, o + k * 7 + 2, none⟩ = some (.string B) := HQ.out.c2
      have q3 : wr.cell? ⟨gb, o + k * 7 + 3, none⟩ = some (.int .i64 N) := HQ.out.c3
      have q4 : wr.cell? ⟨gb, o + k * 7 + 4, none⟩ = some (.slice fa fn fc) := HQ.out.c4
      have q5 : wr.cell? ⟨gb, o + k * 7 + 5, none⟩ = some (.int .i64 cn) := HQ.out.c5
      have q6 : wr.cell? ⟨gb, o + k * 7 + 6, none⟩ = some (.slice ba bn bc) := HQ.out.c6
      have gi : (k : Int) < (n : Int) := by omega
      have ew : IntKind.i64.wrap ((k : Int) + 1) = (k : Int) + 1 := IntWalk.i64_in _ (by omega)
      by_cases hK : 7 ≤ K
      · have RN : Hid (Pr base b bd d (k + 1) (szs (l.take (k + 1))) wr ∧ St d s ∧ Below base w wr) := ⟨⟨R.out.1.dk, R.out.1.rd, R.out.1.iv.more (Nat.le_succ _) (by rw [HTE.out]; exact Nat.le_add_right _ _)⟩, R.out.2⟩
        clear hc hcc hox hwx hT hT1 hT0 hx HT1 hltl HQ P4 B4 HTE
        go_wp2_with fail
        go_roundg g'
        case measure => omega
        case rel => exact ⟨k + 1, d, by omega, by omega, by rw [show ((k + 1 : Nat) : Int) = (k : Int) + 1 from by omega], RN⟩
      · obtain ⟨D, hD⟩ : ∃ D, D = doS ⟨K, A, B, N, fa, fn, fc, cn, ba, bn, bc, fl, bytes⟩ d := ⟨_, rfl⟩
        have SD : Hid (St D s) := by rw [hD]; exact st_do _ (by show K < 7; omega) R.out.2.1
        have HDO : Hid (Calls Try.prog 10 #[.pointer (some ⟨b, 0, none⟩), .pointer (some ⟨bd, 0, none⟩), .agg #[.int .i64 K, .string A, .string B, .int .i64 N, .slice fa fn fc, .int .i64 cn, .slice ba bn bc]] wr fun e w' => e = .returned (.bool true) ∧ Pr base b bd D (k + 1) (T0 + B.size) w' ∧ Below base w w') := by
          refine (do_any base b bd d k T0 ⟨K, A, B, N, fa, fn, fc, cn, ba, bn, bc, fl, bytes⟩ wr w R.out.1 (by omega) (by omega) hwx hox (by rw [HBS.out]; exact Nat.le_refl _) (by rw [← HBS.out]; exact R.out.2.2)).mono ?_
          rintro e w' ⟨h1, h2, h3⟩
          rw [← hD] at h2
          exact ⟨h1, h2, R.out.2.2.trans h3⟩
        obtain ⟨m, hm⟩ : ∃ m, m = D.steps := ⟨_, rfl⟩
        obtain ⟨qd, hq⟩ : ∃ qd, qd = D.down := ⟨_, rfl⟩
        have e1 : ((m : Int) == (s : Int)) = qd := by
          rw [hm, hq]
          rcases SD.out with ⟨h1, h2, h3⟩ | ⟨h1, h2⟩
          · rw [h1, beq_eq_false_iff_ne]; omega
          · rw [h1, h2]; simp
        have e2 : (qd != qd) = false := by simp
        have e3 : ¬ ((s : Int) < (m : Int)) := by
          rw [hm]
          rcases SD.out with ⟨h1, h2, h3⟩ | ⟨h1, h2⟩
          · omega
          · rw [h2]; omega
        have HDN : Hid (∀ W, Has base b D W → Calls Try.prog 24 #[.pointer (some ⟨b, 0, none⟩)] W fun e w' => e = .returned (.bool qd) ∧ w' = W) := fun W h => by rw [hq]; exact down_has base b D W h
        have HSP : Hid (∀ W, Has base b D W → Calls Try.prog 25 #[.pointer (some ⟨b, 0, none⟩)] W fun e w' => e = .returned (.int .i64 (m : Int)) ∧ w' = W) := fun W h => by rw [hm]; exact steps_has base b D W h
        clear hc hcc hox hwx hT hT1 hT0 hx HT1 hltl HQ P4 B4 hD hm hq
        go_wp2_with fail
        refine HDO.out.mono ?_
        rintro e w5 ⟨rfl, p5, b5⟩
        have P5 := hid_of (And.intro p5 b5)
        clear p5 b5 HDO
        go_wp2_with fail
        refine (HDN.out _ P5.out.1.dk).mono ?_
        rintro e w6 ⟨rfl, h6⟩
        subst h6
        go_wp2_with fail
        refine (HSP.out _ P5.out.1.dk).mono ?_
        rintro e w7 ⟨rfl, h7⟩
        subst h7
        go_wp2_with fail
        refine (HSP.out _ P5.out.1.dk).mono ?_
        rintro e w8 ⟨rfl, h8⟩
        subst h8
        go_wp2_with fail
        go_roundg g'
        case measure => omega
        case rel => exact ⟨k + 1, D, by omega, by omega, by rw [show ((k + 1 : Nat) : Int) = (k : Int) + 1 from by omega], by rw [HTE.out]; exact P5.out.1, SD.out, P5.out.2⟩
    · obtain rfl : k = n := by omega
      have gi : ¬ (k : Int) < (k : Int) := by omega
      have P0 := hid_of R.out.1
      have B0 := hid_of R.out.2.2
      have hkk : k ≤ 1048576 := hlen
      cases hqd : d.down with
      | false =>
        have HDN : Hid (Calls Try.prog 24 #[.pointer (some ⟨b, 0, none⟩)] wr fun e w' => e = .returned (.bool false) ∧ w' = wr) := by
          have h := down_has base b d wr P0.out.dk
          rw [hqd] at h
          exact h
        clear hqd P4 B4
        go_wp2_with fail
        refine HDN.out.mono ?_
        rintro e wq ⟨rfl, hwq⟩
        subst hwq
        obtain ⟨WA, hWA⟩ : ∃ WA, WA = wq.alloc (.cells #[.int .i64 1099511627776] 3) := ⟨_, rfl⟩
        have bWA : Below wq.heap.size wq WA := by rw [hWA]; exact (Below.refl _ wq).alloc (Nat.le_refl _) _
        have PA := hid_of (P0.out.below bWA)
        have BA : Hid (Below base w WA) := B0.out.trans (bWA.mono P0.out.hb)
        have HCR : Hid (Calls Try.prog 13 #[.pointer (some ⟨b, 0, none⟩), .agg #[.int .i64 1099511627776, .slice (some ⟨wq.heap.size, 0, none⟩) 1 1]] WA fun e w' => e = .returned (.tuple #[]) ∧ Has base b (d.crash 1099511627776 [1099511627776]) w' ∧ Ev DT base WA w') := by
          obtain ⟨y, hy⟩ := PA.out.dk
          exact crash_call base b y d WA hy 1099511627776 _ _ _ [1099511627776] (by have := PA.out.iv.st; omega) (by simp) (fun X hX => int_one wq X DT base _ rfl (by rw [hWA] at hX; exact hX))
        clear bWA
        go_wp2_with fail
        rw [← hWA]
        clear hWA
        refine HCR.out.mono ?_
        rintro e wc ⟨rfl, hc1, evc⟩
        obtain ⟨rc, hrc⟩ := rhas_code PA.out.rd evc
        obtain ⟨WB, hWB⟩ : ∃ WB, WB = wc.alloc (.cells #[.int .i64 1099511627776] 3) := ⟨_, rfl⟩
        have bWB : Below wc.heap.size wc WB := by rw [hWB]; exact (Below.refl _ wc).alloc (Nat.le_refl _) _
        have HCB := hid_of (hc1.below bWB)
        have BB : Hid (Below base w WB) := (BA.out.trans (evc.below PA.out.hb)).trans (bWB.mono (Nat.le_trans PA.out.hb evc.size))
        have hbB : base ≤ WB.heap.size := by obtain ⟨y, hy⟩ := HCB.out; exact hy.hb
        have HBB := hid_of hbB
        have HRC : Hid (Calls Try.prog 28 #[.pointer (some ⟨bd, 0, none⟩), .agg #[.int .i64 1099511627776, .slice (some ⟨wc.heap.size, 0, none⟩) 1 1]] WB fun e w' => e = .returned (.tuple #[]) ∧ RHas base bd (d.crash 1099511627776 [1099511627776]) w' ∧ Ev ET base WB w') :=
          rcrash_call base bd rc d WB (hrc.below bWB) PA.out.ok 1099511627776 _ _ _ [1099511627776] (by have := PA.out.iv.st; omega) (by simp) (fun X hX => int_one wc X ET base _ rfl (by rw [hWB] at hX; exact hX)) (has_z PA.out.dk)
        clear hc1 evc hrc bWB HCR hbB
        go_wp2_with fail
        rw [← hWB]
        clear hWB
        refine HRC.out.mono ?_
        rintro e wd ⟨rfl, hd1, evd⟩
        have PD : Hid (Pr base b bd (d.crash 1099511627776 [1099511627776]) (k + 1) (szs (l.take k)) wd) := ⟨has_doc HCB.out evd, hd1, PA.out.iv.crash _ _⟩
        have BD : Hid (Below base w wd) := BB.out.trans (evd.below HBB.out)
        have HD2 : Hid (Calls Try.prog 24 #[.pointer (some ⟨b, 0, none⟩)] wd fun e w' => e = .returned (.bool false) ∧ w' = wd) := down_has base b (d.crash 1099511627776 [1099511627776]) wd PD.out.dk
        clear hd1 evd HRC
        go_wp2_with fail
        refine HD2.out.mono ?_
        rintro e we ⟨rfl, he⟩
        subst he
        have HLK : Hid (Calls Try.prog 11 #[.pointer (some ⟨b, 0, none⟩), .pointer (some ⟨bd, 0, none⟩), .slice none 0 0] we fun e w' => e = .returned (.bool true) ∧ Below we.heap.size we w') := like_call base b bd _ (k + 1) _ (.slice none 0 0) [] we PD.out (by omega) (sr_none _) (Nat.zero_le _) (fun x hx => by cases hx)
        clear HD2
        go_wp2_with fail
        refine HLK.out.mono ?_
        rintro e wf ⟨rfl, bf⟩
        have FIN : Hid (Below base w wf) := BD.out.trans (bf.mono PD.out.hb)
        clear bf
        go_wp2_with fail
        go_ret
        exact ⟨rfl, by rw [← HBS.out]; exact FIN.out⟩

      | true =>
        have HDN : Hid (Calls Try.prog 24 #[.pointer (some ⟨b, 0, none⟩)] wr fun e w' => e = .returned (.bool true) ∧ w' = wr) := by
          have h := down_has base b d wr P0.out.dk
          rw [hqd] at h
          exact h
        have hss : d.steps = s := by
          rcases R.out.2.1 with ⟨h1, _, _⟩ | ⟨_, h2⟩
          · rw [hqd] at h1; cases h1
          · exact h2
        have h40 : d.steps + 1 < 1099511627776 := by have := P0.out.iv.st; omega
        have HQD := hid_of hqd
        have H40 := hid_of h40
        have HSP : Hid (∀ W, Has base b d W → Calls Try.prog 25 #[.pointer (some ⟨b, 0, none⟩)] W fun e w' => e = .returned (.int .i64 (s : Int)) ∧ w' = W) := fun W h => by
          have h := steps_has base b d W h
          rw [hss] at h
          exact h
        clear hqd P4 B4 hss h40
        go_wp2_with fail
        refine HDN.out.mono ?_
        rintro e wq ⟨rfl, hwq⟩
        subst hwq
        go_wp2_with fail
        refine (read_down base b d ⟨#[97]⟩ wq P0.out.dk (by decide) HQD.out).mono ?_
        rintro e x1 ⟨rfl, b1⟩
        have P1 := hid_of (P0.out.below b1)
        have B1 : Hid (Below base w x1) := B0.out.trans (b1.mono P0.out.hb)
        clear b1
        go_wp2_with fail
        refine (names_down base b d x1 P1.out.dk HQD.out).mono ?_
        rintro e x2 ⟨rfl, h2⟩
        subst h2
        go_wp2_with fail
        refine (lasting_down base b d _ P1.out.dk HQD.out).mono ?_
        rintro e x3 ⟨rfl, h3⟩
        subst h3
        go_wp2_with fail
        refine (create_down base b d ⟨#[110, 101, 119]⟩ _ P1.out.dk (by decide) H40.out HQD.out).mono ?_
        rintro e x4 ⟨rfl, h4, ev4⟩
        have P4 : Hid (Pr base b bd d k (szs (l.take k)) x4) := ⟨h4, rhas_code P1.out.rd ev4, P1.out.iv⟩
        have B4 : Hid (Below base w x4) := B1.out.trans (ev4.below P1.out.hb)
        clear h4 ev4
        go_wp2_with fail
        refine (syncNames_down base b d _ P4.out.dk H40.out HQD.out).mono ?_
        rintro e x5 ⟨rfl, h5, ev5⟩
        have P5 : Hid (Pr base b bd d k (szs (l.take k)) x5) := ⟨h5, rhas_code P4.out.rd ev5, P4.out.iv⟩
        have B5 : Hid (Below base w x5) := B4.out.trans (ev5.below P4.out.hb)
        clear h5 ev5
        go_wp2_with fail
        refine (HSP.out _ P5.out.dk).mono ?_
        rintro e x6 ⟨rfl, h6⟩
        subst h6
        obtain ⟨WA, hWA⟩ : ∃ WA, WA = x6.alloc (.cells #[.int .i64 1099511627776] 3) := ⟨_, rfl⟩
        have bWA : Below x6.heap.size x6 WA := by rw [hWA]; exact (Below.refl _ x6).alloc (Nat.le_refl _) _
        have PA := hid_of (P5.out.below bWA)
        have BA : Hid (Below base w WA) := B5.out.trans (bWA.mono P5.out.hb)
        have HCR : Hid (Calls Try.prog 13 #[.pointer (some ⟨b, 0, none⟩), .agg #[.int .i64 1099511627776, .slice (some ⟨x6.heap.size, 0, none⟩) 1 1]] WA fun e w' => e = .returned (.tuple #[]) ∧ Has base b (d.crash 1099511627776 [1099511627776]) w' ∧ Ev DT base WA w') := by
          obtain ⟨y, hy⟩ := PA.out.dk
          exact crash_call base b y d WA hy 1099511627776 _ _ _ [1099511627776] (by have := PA.out.iv.st; omega) (by simp) (fun X hX => int_one x6 X DT base _ rfl (by rw [hWA] at hX; exact hX))
        clear bWA
        go_wp2_with fail
        rw [← hWA]
        clear hWA
        refine HCR.out.mono ?_
        rintro e wc ⟨rfl, hc1, evc⟩
        obtain ⟨rc, hrc⟩ := rhas_code PA.out.rd evc
        obtain ⟨WB, hWB⟩ : ∃ WB, WB = wc.alloc (.cells #[.int .i64 1099511627776] 3) := ⟨_, rfl⟩
        have bWB : Below wc.heap.size wc WB := by rw [hWB]; exact (Below.refl _ wc).alloc (Nat.le_refl _) _
        have HCB := hid_of (hc1.below bWB)
        have BB : Hid (Below base w WB) := (BA.out.trans (evc.below PA.out.hb)).trans (bWB.mono (Nat.le_trans PA.out.hb evc.size))
        have hbB : base ≤ WB.heap.size := by obtain ⟨y, hy⟩ := HCB.out; exact hy.hb
        have HBB := hid_of hbB
        have HRC : Hid (Calls Try.prog 28 #[.pointer (some ⟨bd, 0, none⟩), .agg #[.int .i64 1099511627776, .slice (some ⟨wc.heap.size, 0, none⟩) 1 1]] WB fun e w' => e = .returned (.tuple #[]) ∧ RHas base bd (d.crash 1099511627776 [1099511627776]) w' ∧ Ev ET base WB w') :=
          rcrash_call base bd rc d WB (hrc.below bWB) PA.out.ok 1099511627776 _ _ _ [1099511627776] (by have := PA.out.iv.st; omega) (by simp) (fun X hX => int_one wc X ET base _ rfl (by rw [hWB] at hX; exact hX)) (has_z PA.out.dk)
        clear hc1 evc hrc bWB HCR hbB
        go_wp2_with fail
        rw [← hWB]
        clear hWB
        refine HRC.out.mono ?_
        rintro e wd ⟨rfl, hd1, evd⟩
        have PD : Hid (Pr base b bd (d.crash 1099511627776 [1099511627776]) (k + 1) (szs (l.take k)) wd) := ⟨has_doc HCB.out evd, hd1, PA.out.iv.crash _ _⟩
        have BD : Hid (Below base w wd) := BB.out.trans (evd.below HBB.out)
        have HD2 : Hid (Calls Try.prog 24 #[.pointer (some ⟨b, 0, none⟩)] wd fun e w' => e = .returned (.bool false) ∧ w' = wd) := down_has base b (d.crash 1099511627776 [1099511627776]) wd PD.out.dk
        clear hd1 evd HRC
        go_wp2_with fail
        refine HD2.out.mono ?_
        rintro e we ⟨rfl, he⟩
        subst he
        have HLK : Hid (Calls Try.prog 11 #[.pointer (some ⟨b, 0, none⟩), .pointer (some ⟨bd, 0, none⟩), .slice none 0 0] we fun e w' => e = .returned (.bool true) ∧ Below we.heap.size we w') := like_call base b bd _ (k + 1) _ (.slice none 0 0) [] we PD.out (by omega) (sr_none _) (Nat.zero_le _) (fun x hx => by cases hx)
        clear HD2
        go_wp2_with fail
        refine HLK.out.mono ?_
        rintro e wf ⟨rfl, bf⟩
        have FIN : Hid (Below base w wf) := BD.out.trans (bf.mono PD.out.hb)
        clear bf
        go_wp2_with fail
        go_ret
        exact ⟨rfl, by rw [← HBS.out]; exact FIN.out⟩

set_option maxHeartbeats 4000000 in
set_option maxRecDepth 100000 in
theorem law_low (v : Value) (l : List DD) (w : World) (hD : DSl w v l) (hwt : wts l ≤ 1048576) (p : Int) (h1 : p < 1) : Calls Try.prog 6 #[v, .int .i64 p] w fun e w' => e = .returned (.bool true) ∧ Below w.heap.size w w' := by
  obtain ⟨⟨a, cap, rfl, hat⟩, hok⟩ := hD
  have HN := hid_of (new_call w)
  have HAW := hid_of awake_call
  obtain ⟨base, hbase⟩ : ∃ base, base = w.heap.size := ⟨_, rfl⟩
  have HBS := hid_of hbase
  have HAT := hid_of hat
  have HOK := hid_of hok
  have hlen : l.length ≤ 1048576 := Nat.le_trans (wts_len l) hwt
  have HWT := hid_of hwt
  obtain ⟨n, hn⟩ : ∃ n, n = l.length := ⟨_, rfl⟩
  rw [← hn] at hlen ⊢
  have HLN := hid_of hn
  rw [← hbase] at HN
  unfold ptr at HN
  have hs1 : 1 ≤ 3 := by decide

  clear hat hok hwt hn hbase
  go_enter Try.func6, Try.ntmps6
  go_wp2_with fail
  refine HN.out.mono ?_
  rintro e w1 ⟨rfl, hd, b1⟩
  obtain ⟨b, hb⟩ : ∃ b, b = base + 2 := ⟨_, rfl⟩
  rw [← hb] at hd ⊢
  clear hb
  have hbw : base ≤ w1.heap.size := by rw [HBS.out]; exact b1.size
  obtain ⟨bd, hbd⟩ : ∃ bd, bd = w1.heap.size := ⟨_, rfl⟩
  obtain ⟨W1, hW1⟩ : ∃ W1, W1 = w1.alloc (.cells #[.slice none 0 0, .slice none 0 0, .slice none 0 0, .slice none 0 0, .slice none 0 0, .int .i64 0, .bool false] 31) := ⟨_, rfl⟩
  have bA : Below w1.heap.size w1 W1 := by rw [hW1]; exact (Below.refl _ w1).alloc (Nat.le_refl _) _
  have P1 : Hid (Pr base b bd new 0 0 W1) := ⟨by obtain ⟨y, hy⟩ := hd; exact ⟨y, hy.below bA⟩, ⟨_, by rw [hW1, hbd]; exact rd_new base w1 hbw⟩, iv_new⟩
  have B1 : Hid (Below base w W1) := b1.trans (bA.mono hbw)
  clear hd b1 bA hbw HN
  go_wp2_with fail
  rw [← hW1, ← hbd]
  clear hW1 hbd
  refine (HAW.out _).mono ?_
  rintro e w2 ⟨rfl, b2⟩
  obtain ⟨WP, hWP⟩ : ∃ WP, WP = w2.alloc (.cells #[.int .i64 3, .int .i64 3, .int .i64 0] 58) := ⟨_, rfl⟩
  have bWP : Below w2.heap.size w2 WP := by rw [hWP]; exact (Below.refl _ w2).alloc (Nat.le_refl _) _
  have PP := hid_of ((P1.out.below b2).below bWP)
  have BP : Hid (Below base w WP) := (B1.out.trans (b2.mono P1.out.hb)).trans (bWP.mono (Nat.le_trans P1.out.hb b2.size))
  have hone : setS new [⟨3, 3, 0⟩] = (dS 3, 0) := set_one 3 hs1
  obtain ⟨dz, hdz⟩ : ∃ dz, dz = dS 3 := ⟨_, rfl⟩
  rw [← hdz] at hone
  have STZ : Hid (St dz 3) := by rw [hdz]; exact st_new 3 hs1
  have IVZ : Hid (Iv dz 0 0) := by rw [hdz]; exact iv_one 3
  have HPL : Hid (Calls Try.prog 22 #[.pointer (some ⟨b, 0, none⟩), .slice (some ⟨w2.heap.size, 0, none⟩) 1 1] WP fun e w' => e = .returned (.int .i64 0) ∧ Has base b dz w' ∧ Ev DT base WP w') := by
    obtain ⟨y, hy⟩ := PP.out.dk
    have h := plan_call base b y new WP hy _ [⟨3, 3, 0⟩] (by rw [hWP]; exact ft_one w2 _) (fun f hf => by rw [List.mem_singleton.1 hf]; dsimp only; omega)
    rw [hone] at h
    exact h
  have HONE := hid_of hone
  clear b2 bWP hdz hone P1 B1
  go_wp2_with fail
  rw [← hWP]
  clear hWP
  refine HPL.out.mono ?_
  rintro e w3 ⟨rfl, h3, ev3⟩
  obtain ⟨r3, hr3⟩ := rhas_code PP.out.rd ev3
  obtain ⟨WS, hWS⟩ : ∃ WS, WS = w3.alloc (.cells #[.int .i64 3, .int .i64 3, .int .i64 0] 58) := ⟨_, rfl⟩
  have bWS : Below w3.heap.size w3 WS := by rw [hWS]; exact (Below.refl _ w3).alloc (Nat.le_refl _) _
  have HCS := hid_of (h3.below bWS)
  have BS : Hid (Below base w WS) := (BP.out.trans (ev3.below PP.out.hb)).trans (bWS.mono (Nat.le_trans PP.out.hb ev3.size))
  have HBW : Hid (base ≤ WS.heap.size) := by obtain ⟨y, hy⟩ := HCS.out; exact hy.hb
  have HST : Hid (Calls Try.prog 23 #[.pointer (some ⟨bd, 0, none⟩), .slice (some ⟨w3.heap.size, 0, none⟩) 1 1] WS fun e w' => e = .returned (.int .i64 0) ∧ RHas base bd dz w' ∧ Ev ET base WS w') := by
    have h := rset_call base bd r3 new _ [⟨3, 3, 0⟩] WS (hr3.below bWS) (by rw [hWS]; exact ft_one w3 _) (by simp)
    rw [HONE.out] at h
    exact h
  clear h3 ev3 hr3 bWS HPL
  go_wp2_with fail
  rw [← hWS]
  clear hWS
  refine HST.out.mono ?_
  rintro e w4 ⟨rfl, h4, ev4⟩
  have P4 : Hid (Pr base b bd dz 0 0 w4) := ⟨has_doc HCS.out ev4, h4, IVZ.out⟩
  have B4 : Hid (Below base w w4) := BS.out.trans (ev4.below HBW.out)
  clear h4 ev4 HST
  go_wp2_with fail
  go_loopg [7] n (fun g si wx => ∃ (k : Nat) (d : Dk), k ≤ n ∧ n ≤ k + g ∧ si = .int .i64 k ∧ Hid (Pr base b bd d k (szs (l.take k)) wx ∧ St d 3 ∧ Below base w wx))
  case atStart => exact ⟨0, dz, by omega, by omega, rfl, P4.out, STZ.out, B4.out⟩
  case round =>
    obtain ⟨k, d, hk, hg, rfl, R⟩ := hrel
    by_cases hlt : k < n
    · obtain ⟨g', rfl⟩ : ∃ g', gk = g' + 1 := ⟨gk - 1, by omega⟩
      have hltl : k < l.length := by rw [← HLN.out]; exact hlt
      obtain ⟨gb, o, rfl, hcc⟩ : ∃ g o, a = some ⟨g, o, none⟩ ∧ ∀ i (h : i < l.length), DCell w g (o + i * 7) (l[i]'h) := by
        rcases HAT.out with h | h
        · subst h; cases hltl
        · exact h
      have hc := hcc k hltl
      have hox := HOK.out _ (List.getElem_mem hltl)
      have hwx := Nat.le_trans (wts_mem (List.getElem_mem hltl)) HWT.out
      have hT := Nat.le_trans (szs_all l k) (Nat.le_trans (szs_le l) HWT.out)
      have hT1 := szs_take l k hltl
      obtain ⟨T0, hT0⟩ : ∃ T0, T0 = szs (l.take k) := ⟨_, rfl⟩
      rw [← hT0] at hT hT1 R
      obtain ⟨x, hx⟩ : ∃ x, x = l[k] := ⟨_, rfl⟩
      rw [← hx] at hc hox hwx hT1
      have HT1 := hid_of hT1
      obtain ⟨K, A, B, N, fa, fn, fc, cn, ba, bn, bc, fl, bytes⟩ := x
      have HTE : Hid (szs (l.take (k + 1)) = T0 + B.size) := HT1.out
      have HQ := hid_of (hc.below (by rw [← HBS.out]; exact R.out.2.2))
      have q0 : wr.cell? ⟨gb, o + k * 7, none⟩ = some (.int .i64 K) := HQ.out.c0
      have q1 : wr.cell? ⟨gb, o + k * 7 + 1, none⟩ = some (.string A) := HQ.out.c1
      have q2 : wr.cell? ⟨gb, o + k * 7 + 2, none⟩ = some (.string B) := HQ.out.c2
      have q3 : wr.cell? ⟨gb, o + k * 7 + 3, none⟩ = some (.int .i64 N) := HQ.out.c3
      have q4 : wr.cell? ⟨gb, o + k * 7 + 4, none⟩ = some (.slice fa fn fc) := HQ.out.c4
      have q5 : wr.cell? ⟨gb, o + k * 7 + 5, none⟩ = some (.int .i64 cn) := HQ.out.c5
      have q6 : wr.cell? ⟨gb, o + k * 7 + 6, none⟩ = some (.slice ba bn bc) := HQ.out.c6
      have gi : (k : Int) < (n : Int) := by omega
      have ew : IntKind.i64.wrap ((k : Int) + 1) = (k : Int) + 1 := IntWalk.i64_in _ (by omega)
      by_cases hK : 7 ≤ K
      · have RN : Hid (Pr base b bd d (k + 1) (szs (l.take (k + 1))) wr ∧ St d 3 ∧ Below base w wr) := ⟨⟨R.out.1.dk, R.out.1.rd, R.out.1.iv.more (Nat.le_succ _) (by rw [HTE.out]; exact Nat.le_add_right _ _)⟩, R.out.2⟩
        clear hc hcc hox hwx hT hT1 hT0 hx HT1 hltl HQ P4 B4 HTE
        go_wp2_with fail
        go_roundg g'
        case measure => omega
        case rel => exact ⟨k + 1, d, by omega, by omega, by rw [show ((k + 1 : Nat) : Int) = (k : Int) + 1 from by omega], RN⟩
      · obtain ⟨D, hD⟩ : ∃ D, D = doS ⟨K, A, B, N, fa, fn, fc, cn, ba, bn, bc, fl, bytes⟩ d := ⟨_, rfl⟩
        have SD : Hid (St D 3) := by rw [hD]; exact st_do _ (by show K < 7; omega) R.out.2.1
        have HDO : Hid (Calls Try.prog 10 #[.pointer (some ⟨b, 0, none⟩), .pointer (some ⟨bd, 0, none⟩), .agg #[.int .i64 K, .string A, .string B, .int .i64 N, .slice fa fn fc, .int .i64 cn, .slice ba bn bc]] wr fun e w' => e = .returned (.bool true) ∧ Pr base b bd D (k + 1) (T0 + B.size) w' ∧ Below base w w') := by
          refine (do_any base b bd d k T0 ⟨K, A, B, N, fa, fn, fc, cn, ba, bn, bc, fl, bytes⟩ wr w R.out.1 (by omega) (by omega) hwx hox (by rw [HBS.out]; exact Nat.le_refl _) (by rw [← HBS.out]; exact R.out.2.2)).mono ?_
          rintro e w' ⟨h1, h2, h3⟩
          rw [← hD] at h2
          exact ⟨h1, h2, R.out.2.2.trans h3⟩
        obtain ⟨m, hm⟩ : ∃ m, m = D.steps := ⟨_, rfl⟩
        obtain ⟨qd, hq⟩ : ∃ qd, qd = D.down := ⟨_, rfl⟩
        have e1 : ((m : Int) == 3) = qd := by
          rw [hm, hq]
          rcases SD.out with ⟨h1, h2, h3⟩ | ⟨h1, h2⟩
          · rw [h1, beq_eq_false_iff_ne]; omega
          · rw [h1, h2]; simp
        have e2 : (qd != qd) = false := by simp
        have e3 : ¬ (3 < (m : Int)) := by
          rw [hm]
          rcases SD.out with ⟨h1, h2, h3⟩ | ⟨h1, h2⟩
          · omega
          · rw [h2]; omega
        have HDN : Hid (∀ W, Has base b D W → Calls Try.prog 24 #[.pointer (some ⟨b, 0, none⟩)] W fun e w' => e = .returned (.bool qd) ∧ w' = W) := fun W h => by rw [hq]; exact down_has base b D W h
        have HSP : Hid (∀ W, Has base b D W → Calls Try.prog 25 #[.pointer (some ⟨b, 0, none⟩)] W fun e w' => e = .returned (.int .i64 (m : Int)) ∧ w' = W) := fun W h => by rw [hm]; exact steps_has base b D W h
        clear hc hcc hox hwx hT hT1 hT0 hx HT1 hltl HQ P4 B4 hD hm hq
        go_wp2_with fail
        refine HDO.out.mono ?_
        rintro e w5 ⟨rfl, p5, b5⟩
        have P5 := hid_of (And.intro p5 b5)
        clear p5 b5 HDO
        go_wp2_with fail
        refine (HDN.out _ P5.out.1.dk).mono ?_
        rintro e w6 ⟨rfl, h6⟩
        subst h6
        go_wp2_with fail
        refine (HSP.out _ P5.out.1.dk).mono ?_
        rintro e w7 ⟨rfl, h7⟩
        subst h7
        go_wp2_with fail
        refine (HSP.out _ P5.out.1.dk).mono ?_
        rintro e w8 ⟨rfl, h8⟩
        subst h8
        go_wp2_with fail
        go_roundg g'
        case measure => omega
        case rel => exact ⟨k + 1, D, by omega, by omega, by rw [show ((k + 1 : Nat) : Int) = (k : Int) + 1 from by omega], by rw [HTE.out]; exact P5.out.1, SD.out, P5.out.2⟩
    · obtain rfl : k = n := by omega
      have gi : ¬ (k : Int) < (k : Int) := by omega
      have P0 := hid_of R.out.1
      have B0 := hid_of R.out.2.2
      have hkk : k ≤ 1048576 := hlen
      cases hqd : d.down with
      | false =>
        have HDN : Hid (Calls Try.prog 24 #[.pointer (some ⟨b, 0, none⟩)] wr fun e w' => e = .returned (.bool false) ∧ w' = wr) := by
          have h := down_has base b d wr P0.out.dk
          rw [hqd] at h
          exact h
        clear hqd P4 B4
        go_wp2_with fail
        refine HDN.out.mono ?_
        rintro e wq ⟨rfl, hwq⟩
        subst hwq
        obtain ⟨WA, hWA⟩ : ∃ WA, WA = wq.alloc (.cells #[.int .i64 1099511627776] 3) := ⟨_, rfl⟩
        have bWA : Below wq.heap.size wq WA := by rw [hWA]; exact (Below.refl _ wq).alloc (Nat.le_refl _) _
        have PA := hid_of (P0.out.below bWA)
        have BA : Hid (Below base w WA) := B0.out.trans (bWA.mono P0.out.hb)
        have HCR : Hid (Calls Try.prog 13 #[.pointer (some ⟨b, 0, none⟩), .agg #[.int .i64 1099511627776, .slice (some ⟨wq.heap.size, 0, none⟩) 1 1]] WA fun e w' => e = .returned (.tuple #[]) ∧ Has base b (d.crash 1099511627776 [1099511627776]) w' ∧ Ev DT base WA w') := by
          obtain ⟨y, hy⟩ := PA.out.dk
          exact crash_call base b y d WA hy 1099511627776 _ _ _ [1099511627776] (by have := PA.out.iv.st; omega) (by simp) (fun X hX => int_one wq X DT base _ rfl (by rw [hWA] at hX; exact hX))
        clear bWA
        go_wp2_with fail
        rw [← hWA]
        clear hWA
        refine HCR.out.mono ?_
        rintro e wc ⟨rfl, hc1, evc⟩
        obtain ⟨rc, hrc⟩ := rhas_code PA.out.rd evc
        obtain ⟨WB, hWB⟩ : ∃ WB, WB = wc.alloc (.cells #[.int .i64 1099511627776] 3) := ⟨_, rfl⟩
        have bWB : Below wc.heap.size wc WB := by rw [hWB]; exact (Below.refl _ wc).alloc (Nat.le_refl _) _
        have HCB := hid_of (hc1.below bWB)
        have BB : Hid (Below base w WB) := (BA.out.trans (evc.below PA.out.hb)).trans (bWB.mono (Nat.le_trans PA.out.hb evc.size))
        have hbB : base ≤ WB.heap.size := by obtain ⟨y, hy⟩ := HCB.out; exact hy.hb
        have HBB := hid_of hbB
        have HRC : Hid (Calls Try.prog 28 #[.pointer (some ⟨bd, 0, none⟩), .agg #[.int .i64 1099511627776, .slice (some ⟨wc.heap.size, 0, none⟩) 1 1]] WB fun e w' => e = .returned (.tuple #[]) ∧ RHas base bd (d.crash 1099511627776 [1099511627776]) w' ∧ Ev ET base WB w') :=
          rcrash_call base bd rc d WB (hrc.below bWB) PA.out.ok 1099511627776 _ _ _ [1099511627776] (by have := PA.out.iv.st; omega) (by simp) (fun X hX => int_one wc X ET base _ rfl (by rw [hWB] at hX; exact hX)) (has_z PA.out.dk)
        clear hc1 evc hrc bWB HCR hbB
        go_wp2_with fail
        rw [← hWB]
        clear hWB
        refine HRC.out.mono ?_
        rintro e wd ⟨rfl, hd1, evd⟩
        have PD : Hid (Pr base b bd (d.crash 1099511627776 [1099511627776]) (k + 1) (szs (l.take k)) wd) := ⟨has_doc HCB.out evd, hd1, PA.out.iv.crash _ _⟩
        have BD : Hid (Below base w wd) := BB.out.trans (evd.below HBB.out)
        have HD2 : Hid (Calls Try.prog 24 #[.pointer (some ⟨b, 0, none⟩)] wd fun e w' => e = .returned (.bool false) ∧ w' = wd) := down_has base b (d.crash 1099511627776 [1099511627776]) wd PD.out.dk
        clear hd1 evd HRC
        go_wp2_with fail
        refine HD2.out.mono ?_
        rintro e we ⟨rfl, he⟩
        subst he
        have HLK : Hid (Calls Try.prog 11 #[.pointer (some ⟨b, 0, none⟩), .pointer (some ⟨bd, 0, none⟩), .slice none 0 0] we fun e w' => e = .returned (.bool true) ∧ Below we.heap.size we w') := like_call base b bd _ (k + 1) _ (.slice none 0 0) [] we PD.out (by omega) (sr_none _) (Nat.zero_le _) (fun x hx => by cases hx)
        clear HD2
        go_wp2_with fail
        refine HLK.out.mono ?_
        rintro e wf ⟨rfl, bf⟩
        have FIN : Hid (Below base w wf) := BD.out.trans (bf.mono PD.out.hb)
        clear bf
        go_wp2_with fail
        go_ret
        exact ⟨rfl, by rw [← HBS.out]; exact FIN.out⟩

      | true =>
        have HDN : Hid (Calls Try.prog 24 #[.pointer (some ⟨b, 0, none⟩)] wr fun e w' => e = .returned (.bool true) ∧ w' = wr) := by
          have h := down_has base b d wr P0.out.dk
          rw [hqd] at h
          exact h
        have hss : d.steps = 3 := by
          rcases R.out.2.1 with ⟨h1, _, _⟩ | ⟨_, h2⟩
          · rw [hqd] at h1; cases h1
          · exact h2
        have h40 : d.steps + 1 < 1099511627776 := by have := P0.out.iv.st; omega
        have HQD := hid_of hqd
        have H40 := hid_of h40
        have HSP : Hid (∀ W, Has base b d W → Calls Try.prog 25 #[.pointer (some ⟨b, 0, none⟩)] W fun e w' => e = .returned (.int .i64 3) ∧ w' = W) := fun W h => by
          have h := steps_has base b d W h
          rw [hss] at h
          exact h
        clear hqd P4 B4 hss h40
        go_wp2_with fail
        refine HDN.out.mono ?_
        rintro e wq ⟨rfl, hwq⟩
        subst hwq
        go_wp2_with fail
        refine (read_down base b d ⟨#[97]⟩ wq P0.out.dk (by decide) HQD.out).mono ?_
        rintro e x1 ⟨rfl, b1⟩
        have P1 := hid_of (P0.out.below b1)
        have B1 : Hid (Below base w x1) := B0.out.trans (b1.mono P0.out.hb)
        clear b1
        go_wp2_with fail
        refine (names_down base b d x1 P1.out.dk HQD.out).mono ?_
        rintro e x2 ⟨rfl, h2⟩
        subst h2
        go_wp2_with fail
        refine (lasting_down base b d _ P1.out.dk HQD.out).mono ?_
        rintro e x3 ⟨rfl, h3⟩
        subst h3
        go_wp2_with fail
        refine (create_down base b d ⟨#[110, 101, 119]⟩ _ P1.out.dk (by decide) H40.out HQD.out).mono ?_
        rintro e x4 ⟨rfl, h4, ev4⟩
        have P4 : Hid (Pr base b bd d k (szs (l.take k)) x4) := ⟨h4, rhas_code P1.out.rd ev4, P1.out.iv⟩
        have B4 : Hid (Below base w x4) := B1.out.trans (ev4.below P1.out.hb)
        clear h4 ev4
        go_wp2_with fail
        refine (syncNames_down base b d _ P4.out.dk H40.out HQD.out).mono ?_
        rintro e x5 ⟨rfl, h5, ev5⟩
        have P5 : Hid (Pr base b bd d k (szs (l.take k)) x5) := ⟨h5, rhas_code P4.out.rd ev5, P4.out.iv⟩
        have B5 : Hid (Below base w x5) := B4.out.trans (ev5.below P4.out.hb)
        clear h5 ev5
        go_wp2_with fail
        refine (HSP.out _ P5.out.dk).mono ?_
        rintro e x6 ⟨rfl, h6⟩
        subst h6
        obtain ⟨WA, hWA⟩ : ∃ WA, WA = x6.alloc (.cells #[.int .i64 1099511627776] 3) := ⟨_, rfl⟩
        have bWA : Below x6.heap.size x6 WA := by rw [hWA]; exact (Below.refl _ x6).alloc (Nat.le_refl _) _
        have PA := hid_of (P5.out.below bWA)
        have BA : Hid (Below base w WA) := B5.out.trans (bWA.mono P5.out.hb)
        have HCR : Hid (Calls Try.prog 13 #[.pointer (some ⟨b, 0, none⟩), .agg #[.int .i64 1099511627776, .slice (some ⟨x6.heap.size, 0, none⟩) 1 1]] WA fun e w' => e = .returned (.tuple #[]) ∧ Has base b (d.crash 1099511627776 [1099511627776]) w' ∧ Ev DT base WA w') := by
          obtain ⟨y, hy⟩ := PA.out.dk
          exact crash_call base b y d WA hy 1099511627776 _ _ _ [1099511627776] (by have := PA.out.iv.st; omega) (by simp) (fun X hX => int_one x6 X DT base _ rfl (by rw [hWA] at hX; exact hX))
        clear bWA
        go_wp2_with fail
        rw [← hWA]
        clear hWA
        refine HCR.out.mono ?_
        rintro e wc ⟨rfl, hc1, evc⟩
        obtain ⟨rc, hrc⟩ := rhas_code PA.out.rd evc
        obtain ⟨WB, hWB⟩ : ∃ WB, WB = wc.alloc (.cells #[.int .i64 1099511627776] 3) := ⟨_, rfl⟩
        have bWB : Below wc.heap.size wc WB := by rw [hWB]; exact (Below.refl _ wc).alloc (Nat.le_refl _) _
        have HCB := hid_of (hc1.below bWB)
        have BB : Hid (Below base w WB) := (BA.out.trans (evc.below PA.out.hb)).trans (bWB.mono (Nat.le_trans PA.out.hb evc.size))
        have hbB : base ≤ WB.heap.size := by obtain ⟨y, hy⟩ := HCB.out; exact hy.hb
        have HBB := hid_of hbB
        have HRC : Hid (Calls Try.prog 28 #[.pointer (some ⟨bd, 0, none⟩), .agg #[.int .i64 1099511627776, .slice (some ⟨wc.heap.size, 0, none⟩) 1 1]] WB fun e w' => e = .returned (.tuple #[]) ∧ RHas base bd (d.crash 1099511627776 [1099511627776]) w' ∧ Ev ET base WB w') :=
          rcrash_call base bd rc d WB (hrc.below bWB) PA.out.ok 1099511627776 _ _ _ [1099511627776] (by have := PA.out.iv.st; omega) (by simp) (fun X hX => int_one wc X ET base _ rfl (by rw [hWB] at hX; exact hX)) (has_z PA.out.dk)
        clear hc1 evc hrc bWB HCR hbB
        go_wp2_with fail
        rw [← hWB]
        clear hWB
        refine HRC.out.mono ?_
        rintro e wd ⟨rfl, hd1, evd⟩
        have PD : Hid (Pr base b bd (d.crash 1099511627776 [1099511627776]) (k + 1) (szs (l.take k)) wd) := ⟨has_doc HCB.out evd, hd1, PA.out.iv.crash _ _⟩
        have BD : Hid (Below base w wd) := BB.out.trans (evd.below HBB.out)
        have HD2 : Hid (Calls Try.prog 24 #[.pointer (some ⟨b, 0, none⟩)] wd fun e w' => e = .returned (.bool false) ∧ w' = wd) := down_has base b (d.crash 1099511627776 [1099511627776]) wd PD.out.dk
        clear hd1 evd HRC
        go_wp2_with fail
        refine HD2.out.mono ?_
        rintro e we ⟨rfl, he⟩
        subst he
        have HLK : Hid (Calls Try.prog 11 #[.pointer (some ⟨b, 0, none⟩), .pointer (some ⟨bd, 0, none⟩), .slice none 0 0] we fun e w' => e = .returned (.bool true) ∧ Below we.heap.size we w') := like_call base b bd _ (k + 1) _ (.slice none 0 0) [] we PD.out (by omega) (sr_none _) (Nat.zero_le _) (fun x hx => by cases hx)
        clear HD2
        go_wp2_with fail
        refine HLK.out.mono ?_
        rintro e wf ⟨rfl, bf⟩
        have FIN : Hid (Below base w wf) := BD.out.trans (bf.mono PD.out.hb)
        clear bf
        go_wp2_with fail
        go_ret
        exact ⟨rfl, by rw [← HBS.out]; exact FIN.out⟩

set_option maxHeartbeats 4000000 in
set_option maxRecDepth 100000 in
theorem law_high (v : Value) (l : List DD) (w : World) (hD : DSl w v l) (hwt : wts l ≤ 1048576) (p : Int) (h0 : ¬ p < 1) (h1 : 1000 < p) : Calls Try.prog 6 #[v, .int .i64 p] w fun e w' => e = .returned (.bool true) ∧ Below w.heap.size w w' := by
  obtain ⟨⟨a, cap, rfl, hat⟩, hok⟩ := hD
  have HN := hid_of (new_call w)
  have HAW := hid_of awake_call
  obtain ⟨base, hbase⟩ : ∃ base, base = w.heap.size := ⟨_, rfl⟩
  have HBS := hid_of hbase
  have HAT := hid_of hat
  have HOK := hid_of hok
  have hlen : l.length ≤ 1048576 := Nat.le_trans (wts_len l) hwt
  have HWT := hid_of hwt
  obtain ⟨n, hn⟩ : ∃ n, n = l.length := ⟨_, rfl⟩
  rw [← hn] at hlen ⊢
  have HLN := hid_of hn
  rw [← hbase] at HN
  unfold ptr at HN
  have hs1 : 1 ≤ 3 := by decide

  clear hat hok hwt hn hbase
  go_enter Try.func6, Try.ntmps6
  go_wp2_with fail
  refine HN.out.mono ?_
  rintro e w1 ⟨rfl, hd, b1⟩
  obtain ⟨b, hb⟩ : ∃ b, b = base + 2 := ⟨_, rfl⟩
  rw [← hb] at hd ⊢
  clear hb
  have hbw : base ≤ w1.heap.size := by rw [HBS.out]; exact b1.size
  obtain ⟨bd, hbd⟩ : ∃ bd, bd = w1.heap.size := ⟨_, rfl⟩
  obtain ⟨W1, hW1⟩ : ∃ W1, W1 = w1.alloc (.cells #[.slice none 0 0, .slice none 0 0, .slice none 0 0, .slice none 0 0, .slice none 0 0, .int .i64 0, .bool false] 31) := ⟨_, rfl⟩
  have bA : Below w1.heap.size w1 W1 := by rw [hW1]; exact (Below.refl _ w1).alloc (Nat.le_refl _) _
  have P1 : Hid (Pr base b bd new 0 0 W1) := ⟨by obtain ⟨y, hy⟩ := hd; exact ⟨y, hy.below bA⟩, ⟨_, by rw [hW1, hbd]; exact rd_new base w1 hbw⟩, iv_new⟩
  have B1 : Hid (Below base w W1) := b1.trans (bA.mono hbw)
  clear hd b1 bA hbw HN
  go_wp2_with fail
  rw [← hW1, ← hbd]
  clear hW1 hbd
  refine (HAW.out _).mono ?_
  rintro e w2 ⟨rfl, b2⟩
  obtain ⟨WP, hWP⟩ : ∃ WP, WP = w2.alloc (.cells #[.int .i64 3, .int .i64 3, .int .i64 0] 58) := ⟨_, rfl⟩
  have bWP : Below w2.heap.size w2 WP := by rw [hWP]; exact (Below.refl _ w2).alloc (Nat.le_refl _) _
  have PP := hid_of ((P1.out.below b2).below bWP)
  have BP : Hid (Below base w WP) := (B1.out.trans (b2.mono P1.out.hb)).trans (bWP.mono (Nat.le_trans P1.out.hb b2.size))
  have hone : setS new [⟨3, 3, 0⟩] = (dS 3, 0) := set_one 3 hs1
  obtain ⟨dz, hdz⟩ : ∃ dz, dz = dS 3 := ⟨_, rfl⟩
  rw [← hdz] at hone
  have STZ : Hid (St dz 3) := by rw [hdz]; exact st_new 3 hs1
  have IVZ : Hid (Iv dz 0 0) := by rw [hdz]; exact iv_one 3
  have HPL : Hid (Calls Try.prog 22 #[.pointer (some ⟨b, 0, none⟩), .slice (some ⟨w2.heap.size, 0, none⟩) 1 1] WP fun e w' => e = .returned (.int .i64 0) ∧ Has base b dz w' ∧ Ev DT base WP w') := by
    obtain ⟨y, hy⟩ := PP.out.dk
    have h := plan_call base b y new WP hy _ [⟨3, 3, 0⟩] (by rw [hWP]; exact ft_one w2 _) (fun f hf => by rw [List.mem_singleton.1 hf]; dsimp only; omega)
    rw [hone] at h
    exact h
  have HONE := hid_of hone
  clear b2 bWP hdz hone P1 B1
  go_wp2_with fail
  rw [← hWP]
  clear hWP
  refine HPL.out.mono ?_
  rintro e w3 ⟨rfl, h3, ev3⟩
  obtain ⟨r3, hr3⟩ := rhas_code PP.out.rd ev3
  obtain ⟨WS, hWS⟩ : ∃ WS, WS = w3.alloc (.cells #[.int .i64 3, .int .i64 3, .int .i64 0] 58) := ⟨_, rfl⟩
  have bWS : Below w3.heap.size w3 WS := by rw [hWS]; exact (Below.refl _ w3).alloc (Nat.le_refl _) _
  have HCS := hid_of (h3.below bWS)
  have BS : Hid (Below base w WS) := (BP.out.trans (ev3.below PP.out.hb)).trans (bWS.mono (Nat.le_trans PP.out.hb ev3.size))
  have HBW : Hid (base ≤ WS.heap.size) := by obtain ⟨y, hy⟩ := HCS.out; exact hy.hb
  have HST : Hid (Calls Try.prog 23 #[.pointer (some ⟨bd, 0, none⟩), .slice (some ⟨w3.heap.size, 0, none⟩) 1 1] WS fun e w' => e = .returned (.int .i64 0) ∧ RHas base bd dz w' ∧ Ev ET base WS w') := by
    have h := rset_call base bd r3 new _ [⟨3, 3, 0⟩] WS (hr3.below bWS) (by rw [hWS]; exact ft_one w3 _) (by simp)
    rw [HONE.out] at h
    exact h
  clear h3 ev3 hr3 bWS HPL
  go_wp2_with fail
  rw [← hWS]
  clear hWS
  refine HST.out.mono ?_
  rintro e w4 ⟨rfl, h4, ev4⟩
  have P4 : Hid (Pr base b bd dz 0 0 w4) := ⟨has_doc HCS.out ev4, h4, IVZ.out⟩
  have B4 : Hid (Below base w w4) := BS.out.trans (ev4.below HBW.out)
  clear h4 ev4 HST
  go_wp2_with fail
  go_loopg [7] n (fun g si wx => ∃ (k : Nat) (d : Dk), k ≤ n ∧ n ≤ k + g ∧ si = .int .i64 k ∧ Hid (Pr base b bd d k (szs (l.take k)) wx ∧ St d 3 ∧ Below base w wx))
  case atStart => exact ⟨0, dz, by omega, by omega, rfl, P4.out, STZ.out, B4.out⟩
  case round =>
    obtain ⟨k, d, hk, hg, rfl, R⟩ := hrel
    by_cases hlt : k < n
    · obtain ⟨g', rfl⟩ : ∃ g', gk = g' + 1 := ⟨gk - 1, by omega⟩
      have hltl : k < l.length := by rw [← HLN.out]; exact hlt
      obtain ⟨gb, o, rfl, hcc⟩ : ∃ g o, a = some ⟨g, o, none⟩ ∧ ∀ i (h : i < l.length), DCell w g (o + i * 7) (l[i]'h) := by
        rcases HAT.out with h | h
        · subst h; cases hltl
        · exact h
      have hc := hcc k hltl
      have hox := HOK.out _ (List.getElem_mem hltl)
      have hwx := Nat.le_trans (wts_mem (List.getElem_mem hltl)) HWT.out
      have hT := Nat.le_trans (szs_all l k) (Nat.le_trans (szs_le l) HWT.out)
      have hT1 := szs_take l k hltl
      obtain ⟨T0, hT0⟩ : ∃ T0, T0 = szs (l.take k) := ⟨_, rfl⟩
      rw [← hT0] at hT hT1 R
      obtain ⟨x, hx⟩ : ∃ x, x = l[k] := ⟨_, rfl⟩
      rw [← hx] at hc hox hwx hT1
      have HT1 := hid_of hT1
      obtain ⟨K, A, B, N, fa, fn, fc, cn, ba, bn, bc, fl, bytes⟩ := x
      have HTE : Hid (szs (l.take (k + 1)) = T0 + B.size) := HT1.out
      have HQ := hid_of (hc.below (by rw [← HBS.out]; exact R.out.2.2))
      have q0 : wr.cell? ⟨gb, o + k * 7, none⟩ = some (.int .i64 K) := HQ.out.c0
      have q1 : wr.cell? ⟨gb, o + k * 7 + 1, none⟩ = some (.string A) := HQ.out.c1
      have q2 : wr.cell? ⟨gb, o + k * 7 + 2, none⟩ = some (.string B) := HQ.out.c2
      have q3 : wr.cell? ⟨gb, o + k * 7 + 3, none⟩ = some (.int .i64 N) := HQ.out.c3
      have q4 : wr.cell? ⟨gb, o + k * 7 + 4, none⟩ = some (.slice fa fn fc) := HQ.out.c4
      have q5 : wr.cell? ⟨gb, o + k * 7 + 5, none⟩ = some (.int .i64 cn) := HQ.out.c5
      have q6 : wr.cell? ⟨gb, o + k * 7 + 6, none⟩ = some (.slice ba bn bc) := HQ.out.c6
      have gi : (k : Int) < (n : Int) := by omega
      have ew : IntKind.i64.wrap ((k : Int) + 1) = (k : Int) + 1 := IntWalk.i64_in _ (by omega)
      by_cases hK : 7 ≤ K
      · have RN : Hid (Pr base b bd d (k + 1) (szs (l.take (k + 1))) wr ∧ St d 3 ∧ Below base w wr) := ⟨⟨R.out.1.dk, R.out.1.rd, R.out.1.iv.more (Nat.le_succ _) (by rw [HTE.out]; exact Nat.le_add_right _ _)⟩, R.out.2⟩
        clear hc hcc hox hwx hT hT1 hT0 hx HT1 hltl HQ P4 B4 HTE
        go_wp2_with fail
        go_roundg g'
        case measure => omega
        case rel => exact ⟨k + 1, d, by omega, by omega, by rw [show ((k + 1 : Nat) : Int) = (k : Int) + 1 from by omega], RN⟩
      · obtain ⟨D, hD⟩ : ∃ D, D = doS ⟨K, A, B, N, fa, fn, fc, cn, ba, bn, bc, fl, bytes⟩ d := ⟨_, rfl⟩
        have SD : Hid (St D 3) := by rw [hD]; exact st_do _ (by show K < 7; omega) R.out.2.1
        have HDO : Hid (Calls Try.prog 10 #[.pointer (some ⟨b, 0, none⟩), .pointer (some ⟨bd, 0, none⟩), .agg #[.int .i64 K, .string A, .string B, .int .i64 N, .slice fa fn fc, .int .i64 cn, .slice ba bn bc]] wr fun e w' => e = .returned (.bool true) ∧ Pr base b bd D (k + 1) (T0 + B.size) w' ∧ Below base w w') := by
          refine (do_any base b bd d k T0 ⟨K, A, B, N, fa, fn, fc, cn, ba, bn, bc, fl, bytes⟩ wr w R.out.1 (by omega) (by omega) hwx hox (by rw [HBS.out]; exact Nat.le_refl _) (by rw [← HBS.out]; exact R.out.2.2)).mono ?_
          rintro e w' ⟨h1, h2, h3⟩
          rw [← hD] at h2
          exact ⟨h1, h2, R.out.2.2.trans h3⟩
        obtain ⟨m, hm⟩ : ∃ m, m = D.steps := ⟨_, rfl⟩
        obtain ⟨qd, hq⟩ : ∃ qd, qd = D.down := ⟨_, rfl⟩
        have e1 : ((m : Int) == 3) = qd := by
          rw [hm, hq]
          rcases SD.out with ⟨h1, h2, h3⟩ | ⟨h1, h2⟩
          · rw [h1, beq_eq_false_iff_ne]; omega
          · rw [h1, h2]; simp
        have e2 : (qd != qd) = false := by simp
        have e3 : ¬ (3 < (m : Int)) := by
          rw [hm]
          rcases SD.out with ⟨h1, h2, h3⟩ | ⟨h1, h2⟩
          · omega
          · rw [h2]; omega
        have HDN : Hid (∀ W, Has base b D W → Calls Try.prog 24 #[.pointer (some ⟨b, 0, none⟩)] W fun e w' => e = .returned (.bool qd) ∧ w' = W) := fun W h => by rw [hq]; exact down_has base b D W h
        have HSP : Hid (∀ W, Has base b D W → Calls Try.prog 25 #[.pointer (some ⟨b, 0, none⟩)] W fun e w' => e = .returned (.int .i64 (m : Int)) ∧ w' = W) := fun W h => by rw [hm]; exact steps_has base b D W h
        clear hc hcc hox hwx hT hT1 hT0 hx HT1 hltl HQ P4 B4 hD hm hq
        go_wp2_with fail
        refine HDO.out.mono ?_
        rintro e w5 ⟨rfl, p5, b5⟩
        have P5 := hid_of (And.intro p5 b5)
        clear p5 b5 HDO
        go_wp2_with fail
        refine (HDN.out _ P5.out.1.dk).mono ?_
        rintro e w6 ⟨rfl, h6⟩
        subst h6
        go_wp2_with fail
        refine (HSP.out _ P5.out.1.dk).mono ?_
        rintro e w7 ⟨rfl, h7⟩
        subst h7
        go_wp2_with fail
        refine (HSP.out _ P5.out.1.dk).mono ?_
        rintro e w8 ⟨rfl, h8⟩
        subst h8
        go_wp2_with fail
        go_roundg g'
        case measure => omega
        case rel => exact ⟨k + 1, D, by omega, by omega, by rw [show ((k + 1 : Nat) : Int) = (k : Int) + 1 from by omega], by rw [HTE.out]; exact P5.out.1, SD.out, P5.out.2⟩
    · obtain rfl : k = n := by omega
      have gi : ¬ (k : Int) < (k : Int) := by omega
      have P0 := hid_of R.out.1
      have B0 := hid_of R.out.2.2
      have hkk : k ≤ 1048576 := hlen
      cases hqd : d.down with
      | false =>
        have HDN : Hid (Calls Try.prog 24 #[.pointer (some ⟨b, 0, none⟩)] wr fun e w' => e = .returned (.bool false) ∧ w' = wr) := by
          have h := down_has base b d wr P0.out.dk
          rw [hqd] at h
          exact h
        clear hqd P4 B4
        go_wp2_with fail
        refine HDN.out.mono ?_
        rintro e wq ⟨rfl, hwq⟩
        subst hwq
        obtain ⟨WA, hWA⟩ : ∃ WA, WA = wq.alloc (.cells #[.int .i64 1099511627776] 3) := ⟨_, rfl⟩
        have bWA : Below wq.heap.size wq WA := by rw [hWA]; exact (Below.refl _ wq).alloc (Nat.le_refl _) _
        have PA := hid_of (P0.out.below bWA)
        have BA : Hid (Below base w WA) := B0.out.trans (bWA.mono P0.out.hb)
        have HCR : Hid (Calls Try.prog 13 #[.pointer (some ⟨b, 0, none⟩), .agg #[.int .i64 1099511627776, .slice (some ⟨wq.heap.size, 0, none⟩) 1 1]] WA fun e w' => e = .returned (.tuple #[]) ∧ Has base b (d.crash 1099511627776 [1099511627776]) w' ∧ Ev DT base WA w') := by
          obtain ⟨y, hy⟩ := PA.out.dk
          exact crash_call base b y d WA hy 1099511627776 _ _ _ [1099511627776] (by have := PA.out.iv.st; omega) (by simp) (fun X hX => int_one wq X DT base _ rfl (by rw [hWA] at hX; exact hX))
        clear bWA
        go_wp2_with fail
        rw [← hWA]
        clear hWA
        refine HCR.out.mono ?_
        rintro e wc ⟨rfl, hc1, evc⟩
        obtain ⟨rc, hrc⟩ := rhas_code PA.out.rd evc
        obtain ⟨WB, hWB⟩ : ∃ WB, WB = wc.alloc (.cells #[.int .i64 1099511627776] 3) := ⟨_, rfl⟩
        have bWB : Below wc.heap.size wc WB := by rw [hWB]; exact (Below.refl _ wc).alloc (Nat.le_refl _) _
        have HCB := hid_of (hc1.below bWB)
        have BB : Hid (Below base w WB) := (BA.out.trans (evc.below PA.out.hb)).trans (bWB.mono (Nat.le_trans PA.out.hb evc.size))
        have hbB : base ≤ WB.heap.size := by obtain ⟨y, hy⟩ := HCB.out; exact hy.hb
        have HBB := hid_of hbB
        have HRC : Hid (Calls Try.prog 28 #[.pointer (some ⟨bd, 0, none⟩), .agg #[.int .i64 1099511627776, .slice (some ⟨wc.heap.size, 0, none⟩) 1 1]] WB fun e w' => e = .returned (.tuple #[]) ∧ RHas base bd (d.crash 1099511627776 [1099511627776]) w' ∧ Ev ET base WB w') :=
          rcrash_call base bd rc d WB (hrc.below bWB) PA.out.ok 1099511627776 _ _ _ [1099511627776] (by have := PA.out.iv.st; omega) (by simp) (fun X hX => int_one wc X ET base _ rfl (by rw [hWB] at hX; exact hX)) (has_z PA.out.dk)
        clear hc1 evc hrc bWB HCR hbB
        go_wp2_with fail
        rw [← hWB]
        clear hWB
        refine HRC.out.mono ?_
        rintro e wd ⟨rfl, hd1, evd⟩
        have PD : Hid (Pr base b bd (d.crash 1099511627776 [1099511627776]) (k + 1) (szs (l.take k)) wd) := ⟨has_doc HCB.out evd, hd1, PA.out.iv.crash _ _⟩
        have BD : Hid (Below base w wd) := BB.out.trans (evd.below HBB.out)
        have HD2 : Hid (Calls Try.prog 24 #[.pointer (some ⟨b, 0, none⟩)] wd fun e w' => e = .returned (.bool false) ∧ w' = wd) := down_has base b (d.crash 1099511627776 [1099511627776]) wd PD.out.dk
        clear hd1 evd HRC
        go_wp2_with fail
        refine HD2.out.mono ?_
        rintro e we ⟨rfl, he⟩
        subst he
        have HLK : Hid (Calls Try.prog 11 #[.pointer (some ⟨b, 0, none⟩), .pointer (some ⟨bd, 0, none⟩), .slice none 0 0] we fun e w' => e = .returned (.bool true) ∧ Below we.heap.size we w') := like_call base b bd _ (k + 1) _ (.slice none 0 0) [] we PD.out (by omega) (sr_none _) (Nat.zero_le _) (fun x hx => by cases hx)
        clear HD2
        go_wp2_with fail
        refine HLK.out.mono ?_
        rintro e wf ⟨rfl, bf⟩
        have FIN : Hid (Below base w wf) := BD.out.trans (bf.mono PD.out.hb)
        clear bf
        go_wp2_with fail
        go_ret
        exact ⟨rfl, by rw [← HBS.out]; exact FIN.out⟩

      | true =>
        have HDN : Hid (Calls Try.prog 24 #[.pointer (some ⟨b, 0, none⟩)] wr fun e w' => e = .returned (.bool true) ∧ w' = wr) := by
          have h := down_has base b d wr P0.out.dk
          rw [hqd] at h
          exact h
        have hss : d.steps = 3 := by
          rcases R.out.2.1 with ⟨h1, _, _⟩ | ⟨_, h2⟩
          · rw [hqd] at h1; cases h1
          · exact h2
        have h40 : d.steps + 1 < 1099511627776 := by have := P0.out.iv.st; omega
        have HQD := hid_of hqd
        have H40 := hid_of h40
        have HSP : Hid (∀ W, Has base b d W → Calls Try.prog 25 #[.pointer (some ⟨b, 0, none⟩)] W fun e w' => e = .returned (.int .i64 3) ∧ w' = W) := fun W h => by
          have h := steps_has base b d W h
          rw [hss] at h
          exact h
        clear hqd P4 B4 hss h40
        go_wp2_with fail
        refine HDN.out.mono ?_
        rintro e wq ⟨rfl, hwq⟩
        subst hwq
        go_wp2_with fail
        refine (read_down base b d ⟨#[97]⟩ wq P0.out.dk (by decide) HQD.out).mono ?_
        rintro e x1 ⟨rfl, b1⟩
        have P1 := hid_of (P0.out.below b1)
        have B1 : Hid (Below base w x1) := B0.out.trans (b1.mono P0.out.hb)
        clear b1
        go_wp2_with fail
        refine (names_down base b d x1 P1.out.dk HQD.out).mono ?_
        rintro e x2 ⟨rfl, h2⟩
        subst h2
        go_wp2_with fail
        refine (lasting_down base b d _ P1.out.dk HQD.out).mono ?_
        rintro e x3 ⟨rfl, h3⟩
        subst h3
        go_wp2_with fail
        refine (create_down base b d ⟨#[110, 101, 119]⟩ _ P1.out.dk (by decide) H40.out HQD.out).mono ?_
        rintro e x4 ⟨rfl, h4, ev4⟩
        have P4 : Hid (Pr base b bd d k (szs (l.take k)) x4) := ⟨h4, rhas_code P1.out.rd ev4, P1.out.iv⟩
        have B4 : Hid (Below base w x4) := B1.out.trans (ev4.below P1.out.hb)
        clear h4 ev4
        go_wp2_with fail
        refine (syncNames_down base b d _ P4.out.dk H40.out HQD.out).mono ?_
        rintro e x5 ⟨rfl, h5, ev5⟩
        have P5 : Hid (Pr base b bd d k (szs (l.take k)) x5) := ⟨h5, rhas_code P4.out.rd ev5, P4.out.iv⟩
        have B5 : Hid (Below base w x5) := B4.out.trans (ev5.below P4.out.hb)
        clear h5 ev5
        go_wp2_with fail
        refine (HSP.out _ P5.out.dk).mono ?_
        rintro e x6 ⟨rfl, h6⟩
        subst h6
        obtain ⟨WA, hWA⟩ : ∃ WA, WA = x6.alloc (.cells #[.int .i64 1099511627776] 3) := ⟨_, rfl⟩
        have bWA : Below x6.heap.size x6 WA := by rw [hWA]; exact (Below.refl _ x6).alloc (Nat.le_refl _) _
        have PA := hid_of (P5.out.below bWA)
        have BA : Hid (Below base w WA) := B5.out.trans (bWA.mono P5.out.hb)
        have HCR : Hid (Calls Try.prog 13 #[.pointer (some ⟨b, 0, none⟩), .agg #[.int .i64 1099511627776, .slice (some ⟨x6.heap.size, 0, none⟩) 1 1]] WA fun e w' => e = .returned (.tuple #[]) ∧ Has base b (d.crash 1099511627776 [1099511627776]) w' ∧ Ev DT base WA w') := by
          obtain ⟨y, hy⟩ := PA.out.dk
          exact crash_call base b y d WA hy 1099511627776 _ _ _ [1099511627776] (by have := PA.out.iv.st; omega) (by simp) (fun X hX => int_one x6 X DT base _ rfl (by rw [hWA] at hX; exact hX))
        clear bWA
        go_wp2_with fail
        rw [← hWA]
        clear hWA
        refine HCR.out.mono ?_
        rintro e wc ⟨rfl, hc1, evc⟩
        obtain ⟨rc, hrc⟩ := rhas_code PA.out.rd evc
        obtain ⟨WB, hWB⟩ : ∃ WB, WB = wc.alloc (.cells #[.int .i64 1099511627776] 3) := ⟨_, rfl⟩
        have bWB : Below wc.heap.size wc WB := by rw [hWB]; exact (Below.refl _ wc).alloc (Nat.le_refl _) _
        have HCB := hid_of (hc1.below bWB)
        have BB : Hid (Below base w WB) := (BA.out.trans (evc.below PA.out.hb)).trans (bWB.mono (Nat.le_trans PA.out.hb evc.size))
        have hbB : base ≤ WB.heap.size := by obtain ⟨y, hy⟩ := HCB.out; exact hy.hb
        have HBB := hid_of hbB
        have HRC : Hid (Calls Try.prog 28 #[.pointer (some ⟨bd, 0, none⟩), .agg #[.int .i64 1099511627776, .slice (some ⟨wc.heap.size, 0, none⟩) 1 1]] WB fun e w' => e = .returned (.tuple #[]) ∧ RHas base bd (d.crash 1099511627776 [1099511627776]) w' ∧ Ev ET base WB w') :=
          rcrash_call base bd rc d WB (hrc.below bWB) PA.out.ok 1099511627776 _ _ _ [1099511627776] (by have := PA.out.iv.st; omega) (by simp) (fun X hX => int_one wc X ET base _ rfl (by rw [hWB] at hX; exact hX)) (has_z PA.out.dk)
        clear hc1 evc hrc bWB HCR hbB
        go_wp2_with fail
        rw [← hWB]
        clear hWB
        refine HRC.out.mono ?_
        rintro e wd ⟨rfl, hd1, evd⟩
        have PD : Hid (Pr base b bd (d.crash 1099511627776 [1099511627776]) (k + 1) (szs (l.take k)) wd) := ⟨has_doc HCB.out evd, hd1, PA.out.iv.crash _ _⟩
        have BD : Hid (Below base w wd) := BB.out.trans (evd.below HBB.out)
        have HD2 : Hid (Calls Try.prog 24 #[.pointer (some ⟨b, 0, none⟩)] wd fun e w' => e = .returned (.bool false) ∧ w' = wd) := down_has base b (d.crash 1099511627776 [1099511627776]) wd PD.out.dk
        clear hd1 evd HRC
        go_wp2_with fail
        refine HD2.out.mono ?_
        rintro e we ⟨rfl, he⟩
        subst he
        have HLK : Hid (Calls Try.prog 11 #[.pointer (some ⟨b, 0, none⟩), .pointer (some ⟨bd, 0, none⟩), .slice none 0 0] we fun e w' => e = .returned (.bool true) ∧ Below we.heap.size we w') := like_call base b bd _ (k + 1) _ (.slice none 0 0) [] we PD.out (by omega) (sr_none _) (Nat.zero_le _) (fun x hx => by cases hx)
        clear HD2
        go_wp2_with fail
        refine HLK.out.mono ?_
        rintro e wf ⟨rfl, bf⟩
        have FIN : Hid (Below base w wf) := BD.out.trans (bf.mono PD.out.hb)
        clear bf
        go_wp2_with fail
        go_ret
        exact ⟨rfl, by rw [← HBS.out]; exact FIN.out⟩

theorem law_call (v : Value) (l : List DD) (w : World) (hD : DSl w v l) (hwt : wts l ≤ 1048576) (p : Int) : Calls Try.prog 6 #[v, .int .i64 p] w fun e w' => e = .returned (.bool true) ∧ Below w.heap.size w w' := by
  by_cases h0 : p < 1
  · exact law_low v l w hD hwt p h0
  · by_cases h1 : 1000 < p
    · exact law_high v l w hD hwt p h0 h1
    · obtain ⟨s, rfl⟩ : ∃ s : Nat, p = (s : Int) := ⟨p.toNat, by omega⟩
      exact law_in v l w hD hwt s (by omega) (by omega)
end Go.Proofs.Ytilbffbmpgebmaa.Stops
