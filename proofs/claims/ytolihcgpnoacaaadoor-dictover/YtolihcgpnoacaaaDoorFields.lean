/- fields, Fields, After. -/
import Derived.Test.YtolihcgpnoacaaaDoorRising
import Derived.OwnWalk
namespace Go.Proofs.YtolihcgpnoacaaaDoor.Fields
open Go.RowKit Go.Maps Go.Sort
open Go.Proofs.YtolihcgpnoacaaaDoor.DictMath
open Go.Proofs.YtolihcgpnoacaaaDoor.Base
open Go.Proofs.YtolihcgpnoacaaaDoor.Small
open Go.Proofs.YtolihcgpnoacaaaDoor.Rising
set_option linter.unusedVariables false

def NM (w : World) (v : Value) (ks : List Bs) : Prop := ∃ a c, v = .slice a ks.length c ∧ ks.length ≤ c ∧ (ks = [] ∨ ∃ g o, a = some ⟨g, o, none⟩ ∧ ∀ k (h : k < ks.length), w.cell? ⟨g, o + k, none⟩ = some (.string (mk (ks[k]'h))))
theorem nm_row {B : Nat} {w : World} {v : Value} {ks : List Bs} (h : w.ownsRow B 9 1 v ks.length (ks.map encStr)) : NM w v ks := by
  rcases h.2 with ⟨rfl, h0⟩ | ⟨g, cap, cur, rfl, hb, hg, q1, q2, q3, q4⟩
  · have : ks = [] := List.length_eq_zero_iff.1 h0
    subst this
    exact ⟨none, 0, rfl, Nat.le_refl _, Or.inl rfl⟩
  · refine ⟨_, cap, rfl, q1, Or.inr ⟨g, 0, rfl, fun k hk => ?_⟩⟩
    have c0 := h.cellAt k (by omega)
    rw [Nat.zero_add, c0]
    simp [hk, enc_mk]
theorem NM.below {w w' : World} {v : Value} {ks : List Bs} (h : NM w v ks) (hb : Below w.heap.size w w') : NM w' v ks := by
  obtain ⟨a, c, rfl, hc, h⟩ := h
  refine ⟨a, c, rfl, hc, h.imp id ?_⟩
  rintro ⟨g, o, e, hq⟩
  exact ⟨g, o, e, fun k hk => cell_on hb (hq k hk)⟩
def withVals (l : FL) (ks : List Bs) : FL := ks.map fun k => (k, (lkp l k).getD [])
theorem vals_sub {l r : FL} (hr : Ris l) (h : ∀ p ∈ r, p ∈ l) : withVals l (keys r) = r := by
  unfold withVals keys
  rw [List.map_map]
  have : ∀ p ∈ r, ((fun k => (k, (lkp l k).getD [])) ∘ fun x : Bs × Bs => x.1) p = p := fun p hp => by
    show (p.1, (lkp l p.1).getD []) = p
    rw [lkp_at hr p (h p hp)]
    rfl
  rw [List.map_congr_left this]
  simp
/- a row that is being filled -/
structure RW (g n k : Nat) (xs : FL) (w : World) : Prop where
  blk : ∃ cur : Array Value, w.heap[g]? = some (.cells cur 52 (0, 0)) ∧ cur.size = n * 2 ∧ ∀ j, j < k * 2 → cur[j]? = (xs.flatMap fCells)[j]?
theorem set_at {w : World} {b i : Nat} {cs : Array Value} {ty : TypeId} {fz : Nat × Nat} (h : w.heap[b]? = some (.cells cs ty fz)) (v : Value) : (w.setCell ⟨b, i, none⟩ v).heap[b]? = some (.cells (cs.setIfInBounds i v) ty fz) := by
  have e2 : (w.setCell ⟨b, i, none⟩ v).heap[b]? = (w.heap[b]?).map (fun | .cells c elem frozen => .cells (if (none : Option Nat).isSome then c else c.setIfInBounds i v) elem frozen | o => o) := by
    show (w.heap.modify b _)[b]? = _
    rw [Array.getElem?_modify, if_pos rfl]
    rfl
  rw [e2, h]; rfl
theorem rw_step {g n k : Nat} {xs : FL} {w : World} (h : RW g n k xs w) (hk : k < n) (hx : k < xs.length) : RW g n (k + 1) xs ((w.setCell ⟨g, k * 2, none⟩ (.string (mk (xs[k]'hx).1))).setCell ⟨g, k * 2 + 1, none⟩ (.string (mk (xs[k]'hx).2))) := by
  obtain ⟨cur, h1, h2, h3⟩ := h.blk
  refine ⟨⟨_, set_at (set_at h1 _) _, by simp [h2], fun j hj => ?_⟩⟩
  obtain ⟨d0, d1⟩ := fflat_at xs k hx
  rw [Array.getElem?_setIfInBounds, Array.getElem?_setIfInBounds]
  by_cases e1 : k * 2 + 1 = j
  · rw [if_pos e1, if_pos (by simp [h2]; omega), ← e1, d1]
  · rw [if_neg e1]
    by_cases e0 : k * 2 = j
    · rw [if_pos e0, if_pos (by omega), ← e0, d0]
    · rw [if_neg e0]
      exact h3 j (by omega)
theorem RW.cell {g n k : Nat} {xs : FL} {w : World} (h : RW g n k xs w) (j : Nat) (hj : j < n * 2) : (∃ v, w.cell? ⟨g, j, none⟩ = some v) ∧ w.frozen? ⟨g, j, none⟩ = false := by
  obtain ⟨cur, h1, h2, h3⟩ := h.blk
  refine ⟨⟨cur[j]'(by omega), ?_⟩, Lib.frozen_of_heap h1 j⟩
  rw [Lib.cell_of_heap h1 j]
  exact Array.getElem?_eq_getElem (by omega)
theorem RW.own {B g n : Nat} {xs : FL} {w : World} (h : RW g n n xs w) (hB : B ≤ g) (hn : n ≤ maxLen) (hx : xs.length = n) : w.ownsRow B 52 2 (.slice (some ⟨g, 0, none⟩) n n) n (xs.flatMap fCells) := by
  obtain ⟨cur, h1, h2, h3⟩ := h.blk
  refine ⟨by rw [fflat_len, hx], Or.inr ⟨g, n, cur, rfl, hB, h1, Nat.le_refl _, hn, h2, ?_⟩⟩
  apply List.ext_getElem?
  intro j
  by_cases hj : j < n * 2
  · rw [List.getElem?_take, if_pos hj, ← h3 j hj]
    simp
  · rw [List.getElem?_eq_none (by simp [h2]; omega), List.getElem?_eq_none (by rw [fflat_len, hx]; omega)]
theorem info52 : (Tryd.prog.info? 52).map (fun i => (i.zero, i.size, i.bytes)) = some (some (.agg #[.string ⟨#[]⟩, .string ⟨#[]⟩]), 2, 32) := by kernel_rfl
def FldE (xs : FL) (w : World) (e : Ending) (w' : World) : Prop := ∃ v, e = .returned v ∧ w'.ownsRow w.heap.size 52 2 v xs.length (xs.flatMap fCells) ∧ Below w.heap.size w w'
set_option maxRecDepth 100000 in
theorem look0_run {w : World} {b n : Nat} {l : FL} (h : w.ownsMap Tryd.prog 9 RC b n (toD l)) (s : ByteArray) (hs : s.size ≤ 140737488355328) :
    (Instr.lookup 59 (.map (some b)) (.string s) false).run Tryd.prog w = .ok (.agg #[.string (valS l (bs s))]) w := by
  obtain ⟨v, ps, hrun, hv⟩ := h.lookup law9 Tryd.underlying59 (zero63 w) (zd := .lit (.string [])) (zp := []) rfl (key9 s hs)
  rw [hrun]
  rw [at_D] at hv
  obtain ⟨s', rfl, e⟩ := RC_inv hv
  have e2 : (lkp l (bs s)).getD [] = bs s' := by injection e with e; injection e
  unfold valS
  rw [e2, mk_bs]
set_option maxHeartbeats 4000000 in
set_option maxRecDepth 100000 in
theorem fields_nil (w : World) (p : Value) (a : Option Addr) (c : Nat) : Calls Tryd.prog 34 #[p, .slice a 0 c] w fun e w' => FldE [] w e w' := by
  obtain ⟨i0, hi, hz0, hz1, hz2⟩ := parts_of info52
  go_enter Tryd.func34, Tryd.ntmps34
  go_wp2_with (at_make; refine wpList_make_full _ rfl _ _ 22 rfl w.heap.size 52 i0 (.agg #[.string ⟨#[]⟩, .string ⟨#[]⟩]) 2 Tryd.underlying22 hi hz0 hz1 _ _ _ _ 0 rfl rfl rfl rfl ?b2 ?b3 (Nat.le_refl _) ?_)
  case b2 => rw [hz2]; omega
  case b3 => unfold maxLen; omega
  intro w0 hown0 hgrow0
  have hb0 : Below w.heap.size w w0 := (Below.refl _ _).grown hgrow0 (Nat.le_refl _) (fun k h => by cases h)
  have HO := hid_of hown0
  clear hown0 hgrow0
  go_wp2_with fail
  go_loopg [13] 0 (fun g si wx => si = .int .i64 0 ∧ wx = w0)
  case atStart => exact ⟨rfl, rfl⟩
  case round =>
    obtain ⟨rfl, hwx⟩ := hrel
    rw [hwx]
    clear hwx
    go_wp2_with fail
    go_ret
    refine ⟨.slice (some ⟨w.heap.size, 0, none⟩) 0 0, rfl, ?_, hb0⟩
    have h := HO.out
    rw [List.length_eq_zero_iff.1 h.1] at h
    exact h
theorem field63 (Y : ByteArray) (w : World) : (Instr.field 63 (.agg #[.string Y]) 0).run Tryd.prog w = .ok (.string Y) w := by kernel_rfl
set_option maxHeartbeats 4000000 in
set_option maxRecDepth 100000 in
theorem fields_call (b m : Nat) (l : FL) (v : Value) (ks : List Bs) (w : World) (h : DK b m l w) (hv : NM w v ks) (hn : ks.length ≤ 8796093022208) (hs : ∀ k ∈ ks, k.length ≤ 140737488355328) : Calls Tryd.prog 34 #[ptr b, v] w fun e w' => FldE (withVals l ks) w e w' := by
  obtain ⟨i0, hi, hz0, hz1, hz2⟩ := parts_of info52
  obtain ⟨a, c, rfl, hc, hv⟩ := hv
  have HV := hid_of hv
  have HD := hid_of h
  have HS := hid_of hs
  have HX := hid_of (show (withVals l ks).length = ks.length from by unfold withVals; simp)
  clear h hv hs
  unfold ptr
  go_enter Tryd.func34, Tryd.ntmps34
  go_wp2_with (at_make; refine wpList_make_full _ rfl _ _ 22 rfl w.heap.size 52 i0 (.agg #[.string ⟨#[]⟩, .string ⟨#[]⟩]) 2 Tryd.underlying22 hi hz0 hz1 _ _ _ _ ks.length rfl rfl rfl rfl ?b2 ?b3 (Nat.le_refl _) ?_)
  case b2 => rw [hz2]; omega
  case b3 => unfold maxLen; omega
  intro w0 hown0 hgrow0
  have HB0 : Hid (Below w.heap.size w w0) := hid_of ((Below.refl _ _).grown hgrow0 (Nat.le_refl _) (fun k h => by cases h))
  have HR0 : Hid (RW w.heap.size ks.length 0 (withVals l ks) w0) := hid_of (by
    rcases hown0.2 with ⟨e, _⟩ | ⟨g, cap, cur, e, hb, hg, q1, q2, q3, q4⟩
    · cases e
    · injection e with e1 e2 e3
      injection e1 with e1
      injection e1 with e1
      subst e1 e3
      exact ⟨⟨cur, hg, q3, fun j hj => by omega⟩⟩)
  clear hown0 hgrow0
  go_wp2_with fail
  obtain ⟨G, hG⟩ : ∃ G, G = w.heap.size := ⟨_, rfl⟩
  rw [← hG] at HB0 HR0
  rw [← hG]
  have HG := hid_of hG
  clear hG
  go_loopg [13] ks.length (fun g si wx => ∃ k : Nat, k ≤ ks.length ∧ ks.length ≤ k + g ∧ si = .int .i64 (k : Int) ∧ Hid (RW G ks.length k (withVals l ks) wx) ∧ Hid (Below G w wx))
  case atStart => exact ⟨0, by omega, by omega, rfl, HR0, HB0⟩
  case round =>
    obtain ⟨k, hk, hg, rfl, HR, HN⟩ := hrel
    by_cases hlt : k < ks.length
    · obtain ⟨g', rfl⟩ : ∃ g', gk = g' + 1 := ⟨gk - 1, by omega⟩
      have bW : Below w.heap.size w wr := by rw [← HG.out]; exact HN.out
      obtain ⟨gb, o, rfl, hc⟩ : ∃ g o, a = some ⟨g, o, none⟩ ∧ ∀ k (h : k < ks.length), wr.cell? ⟨g, o + k, none⟩ = some (.string (mk (ks[k]'h))) := by
        rcases HV.out with h | ⟨g, o, e, h⟩
        · subst h; simp at hlt
        · exact ⟨g, o, e, fun k hk => cell_on bW (h k hk)⟩
      have c0 := hc k hlt
      have dW := HD.out.below bW
      have cB : wr.cell? ⟨b, 0, none⟩ = some (.map (some m)) := dW.cell
      have hlook := look0_run dW.map (mk (ks[k]'hlt)) (by rw [mk_size]; exact HS.out _ (List.getElem_mem hlt))
      have e2 : IntKind.i64.wrap ((k : Int) + 1) = (k : Int) + 1 := IntWalk.i64_in _ (by omega)
      have g2 : (k : Int) < (ks.length : Int) := by omega
      obtain ⟨⟨v0, r0⟩, z0⟩ := HR.out.cell (k * 2) (by omega)
      obtain ⟨⟨v1, r1⟩, z1⟩ := HR.out.cell (k * 2 + 1) (by omega)
      have hstep := rw_step HR.out hlt (by rw [HX.out]; exact hlt)
      have ek : (withVals l ks)[k]'(by rw [HX.out]; exact hlt) = (ks[k]'hlt, (lkp l (ks[k]'hlt)).getD []) := by simp [withVals]
      rw [ek] at hstep
      unfold valS at hlook
      rw [bs_mk] at hlook
      dsimp only at hstep
      have HST := hid_of hstep
      clear hstep ek dW hc bW
      generalize mk (ks[k]'hlt) = X at *
      generalize mk ((lkp l (ks[k]'hlt)).getD []) = Y at *
      have hfld := field63 Y wr
      go_wp2_with fail
      go_roundg g'
      case measure => omega
      case rel => exact ⟨k + 1, by omega, by omega, by rw [show ((k + 1 : Nat) : Int) = (k : Int) + 1 from by omega], HST, hid_of ((HN.out.setCell (Nat.le_refl _) _).setCell (Nat.le_refl _) _)⟩
    · obtain rfl : k = ks.length := by omega
      have gi : ¬ (ks.length : Int) < (ks.length : Int) := by omega
      go_wp2_with fail
      go_ret
      refine ⟨_, rfl, ?_, by have := HN.out; rw [HG.out] at this; exact this⟩
      rw [HX.out]
      exact HR.out.own (by rw [HG.out]; exact Nat.le_refl _) (by unfold maxLen; omega) HX.out

theorem filter_true (l : List Bs) : l.filter (fun _ => true) = l := List.filter_eq_self.2 fun _ _ => rfl
theorem keys_beh (l : FL) (k : Bs) : (keys l).filter (fun x => decide (k < x)) = keys (beh l k) := by
  unfold keys beh
  rw [List.filter_map]
  rfl
theorem DK.klen {b m : Nat} {l : FL} {w : World} (h : DK b m l w) {r : FL} (hr : ∀ p ∈ r, p ∈ l) : ∀ k ∈ keys r, k.length ≤ 140737488355328 := fun k hk => by
  obtain ⟨p, hp, rfl⟩ := List.mem_map.1 hk
  exact (h.len p (hr p hp)).1
theorem row_mono {w : World} {B B' e sz n : Nat} {v : Value} {xs : List Value} (h : w.ownsRow B e sz v n xs) (hB : B' ≤ B) : w.ownsRow B' e sz v n xs := by
  refine ⟨h.1, h.2.imp id ?_⟩
  rintro ⟨g, cap, cur, rfl, hb, rest⟩
  exact ⟨g, cap, cur, rfl, Nat.le_trans hB hb, rest⟩
theorem fld_later {xs : FL} {w w1 : World} (h : Below w.heap.size w w1) {e : Ending} {w' : World} (hf : FldE xs w1 e w') : FldE xs w e w' := by
  obtain ⟨v, he, ho, hb⟩ := hf
  exact ⟨v, he, row_mono ho h.size, bel h hb (Nat.le_refl _)⟩
set_option maxHeartbeats 1000000 in
set_option maxRecDepth 100000 in
theorem all_fields (b m : Nat) (l : FL) (w : World) (h : DK b m l w) (hn : l.length < 8796093022208) : Calls Tryd.prog 20 #[ptr b] w fun e w' => FldE l w e w' := by
  have H1 := hid_of (rising_all b m l w h hn)
  rw [filter_true] at H1
  have H2 : Hid (∀ v w1, NM w1 v (keys l) → DK b m l w1 → Calls Tryd.prog 34 #[ptr b, v] w1 fun e w' => FldE l w1 e w') := hid_of fun v w1 hv hd => by
    have := fields_call b m l v (keys l) w1 hd hv (by unfold keys; simp; omega) (DK.klen hd (fun p hp => hp))
    rw [vals_sub hd.ris (fun p hp => hp)] at this
    exact this
  have HD := hid_of h
  clear h
  unfold ptr at *
  go_enter Tryd.func20, Tryd.ntmps20
  go_wp2_with fail
  refine H1.out.mono ?_
  rintro e w1 ⟨v, rfl, ho, hb⟩
  have H3 := hid_of (H2.out v w1 (nm_row ho) (HD.out.below hb))
  have HB := hid_of hb
  clear ho hb H1 H2
  go_wp2_with fail
  refine H3.out.mono ?_
  rintro e w2 hf
  have HF := hid_of hf
  obtain ⟨v2, rfl, _, _⟩ := hf
  go_wp2_with fail
  go_ret
  exact fld_later HB.out HF.out
set_option maxHeartbeats 1000000 in
set_option maxRecDepth 100000 in
theorem all_fields_nil (w : World) : Calls Tryd.prog 20 #[.pointer none] w fun e w' => FldE [] w e w' := by
  have H1 := hid_of (rising_nil (.func (.func 35) #[] #[]) w)
  have H2 := hid_of (fields_nil w (.pointer none) none 0)
  go_enter Tryd.func20, Tryd.ntmps20
  go_wp2_with fail
  refine H1.out.mono ?_
  rintro e w1 hw1
  obtain ⟨rfl, rfl⟩ := hw1
  go_wp2_with fail
  refine H2.out.mono ?_
  rintro e w2 hf
  have HF := hid_of hf
  obtain ⟨v2, rfl, _, _⟩ := hf
  go_wp2_with fail
  go_ret
  exact HF.out
set_option maxHeartbeats 1000000 in
set_option maxRecDepth 100000 in
theorem after_no (p : Value) (s : ByteArray) (n : Int) (w : World) (hn : n ≤ 0) : Calls Tryd.prog 18 #[p, .string s, .int .i64 n] w fun e w' => FldE [] w e w' := by
  go_enter Tryd.func18, Tryd.ntmps18
  go_wp2_with fail
  go_ret
  exact ⟨.slice none 0 0, rfl, World.ownsRow_nil _ _ _ _, (Below.refl _ w).alloc (Nat.le_refl _) _⟩
theorem NM.cut {w : World} {a : Option Addr} {n c : Nat} {ks : List Bs} (h : NM w (.slice a n c) ks) (j : Nat) (hj : j ≤ n) : NM w (.slice a j c) (ks.take j) := by
  obtain ⟨a', c', e, hc, h⟩ := h
  injection e with e1 e2 e3
  subst e1 e2 e3
  refine ⟨_, _, by rw [List.length_take, Nat.min_eq_left hj], by rw [List.length_take]; omega, ?_⟩
  rcases h with rfl | ⟨g, o, rfl, h⟩
  · exact Or.inl (by simp)
  · refine Or.inr ⟨g, o, rfl, fun k hk => ?_⟩
    rw [List.getElem_take]
    exact h k (by rw [List.length_take] at hk; omega)
theorem cut_hi (a : Option Addr) (n c j : Nat) (y : Int) (hy : y = j) (hj : j ≤ c) (w : World) : (Instr.slice 73 (.slice a n c) none (some (.int .i64 y)) none).run Tryd.prog w = .ok (.slice a j c) w := by
  subst hy
  have h2 : (j : Int) ≤ c := by omega
  have h0 : (if c = 0 then a else a.map (·.add 0)) = a := by
    by_cases h : c = 0
    · rw [if_pos h]
    · rw [if_neg h]
      cases a with
      | none => rfl
      | some a => simp [Addr.add]
  simp [Instr.slice, run_underlying Tryd.underlying73, Instr.sliceBounds, run_sliceBound, h2, h0]
set_option maxHeartbeats 2000000 in
set_option maxRecDepth 100000 in
theorem after_call (b m : Nat) (l : FL) (s : ByteArray) (n : Int) (w : World) (h : DK b m l w) (hl : l.length < 8796093022208) (hn : 0 < n) (hn2 : n ≤ 9223372036854775807) : Calls Tryd.prog 18 #[ptr b, .string s, .int .i64 n] w fun e w' => FldE ((beh l (bs s)).take n.toNat) w e w' := by
  have bA : Below w.heap.size w (w.alloc (.cells #[.string s] 9)) := (Below.refl _ w).alloc (Nat.le_refl _) _
  have dA := h.below bA
  have H1 := hid_of (rising_gtr b m l (bs s) w.heap.size (w.alloc (.cells #[.string s] 9)) dA (by rw [mk_bs]; exact Lib.cell_of_heap (heap_alloc_new w _) 0) hl)
  rw [keys_beh] at H1
  have HLB := hid_of (show (beh l (bs s)).length ≤ l.length from List.length_filter_le _ _)
  have hsub : ∀ p ∈ (beh l (bs s)).take n.toNat, p ∈ l := fun p hp => (List.mem_filter.1 (List.mem_of_mem_take hp)).1
  have H2 : Hid (∀ v w1, NM w1 v (keys ((beh l (bs s)).take n.toNat)) → DK b m l w1 → Calls Tryd.prog 34 #[ptr b, v] w1 fun e w' => FldE ((beh l (bs s)).take n.toNat) w1 e w') := hid_of fun v w1 hv hd => by
    have := fields_call b m l v (keys ((beh l (bs s)).take n.toNat)) w1 hd hv (by unfold keys; have := HLB.out; simp; omega) (DK.klen hd hsub)
    rw [vals_sub hd.ris hsub] at this
    exact this
  have HD := hid_of dA
  have HA := hid_of bA
  clear h dA bA hsub
  unfold ptr at *
  go_enter Tryd.func18, Tryd.ntmps18
  go_wp2_with fail
  refine H1.out.mono ?_
  rintro e w1 ⟨v, rfl, ho, hb⟩
  have hnm := nm_row ho
  obtain ⟨a, c, hv, hc, hcs⟩ := id hnm
  subst hv
  have hkl : (keys (beh l (bs s))).length = (beh l (bs s)).length := by unfold keys; simp
  rw [hkl] at hc hnm ⊢
  obtain ⟨N, hN⟩ : ∃ N, N = (beh l (bs s)).length := ⟨_, rfl⟩
  have HLN := hid_of (show N < 8796093022208 from by have := HLB.out; omega)
  have HNM := hid_of (hnm.cut (min n.toNat N) (by rw [hN]; omega))
  have HCC := hid_of (show N ≤ c from by rw [hN]; exact hc)
  have HB := hid_of hb
  have HE : Hid (NM w1 (.slice a (min n.toNat N) c) (keys ((beh l (bs s)).take n.toNat))) := hid_of (by
    have := HNM.out
    have e : (keys (beh l (bs s))).take (min n.toNat N) = keys ((beh l (bs s)).take n.toNat) := by
      unfold keys
      rw [← List.map_take]
      congr 1
      rw [hN, List.take_eq_take_iff]
      omega
    rw [e] at this
    exact this)
  rw [← hN]
  clear hN hkl hcs hc hnm ho hb H1 HNM
  obtain ⟨J, hJ⟩ : ∃ J, J = min n.toNat N := ⟨_, rfl⟩
  rw [← hJ] at HE
  have H3 := hid_of (H2.out _ w1 HE.out (HD.out.below HB.out))
  have hcut := cut_hi a N c J (J : Int) rfl (by have := HCC.out; omega)
  have hmin : min n (N : Int) = (J : Int) := by omega
  clear hJ
  go_wp2_with fail
  refine H3.out.mono ?_
  rintro e w2 hf
  have HF := hid_of hf
  obtain ⟨v2, rfl, _, _⟩ := hf
  go_wp2_with fail
  go_ret
  exact fld_later (bel HA.out HB.out (Nat.le_refl _)) HF.out
end Go.Proofs.YtolihcgpnoacaaaDoor.Fields
