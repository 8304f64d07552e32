/- The law BlobOps, walked. -/
import Derived.Test.YtdkdjgpeeglbhaaDoorSure
import Derived.Test.YtdkdjgpeeglbhaaDoorRefOp
import Derived.Test.YtdkdjgpeeglbhaaDoorLonger
namespace Go.Proofs.YtdkdjgpeeglbhaaDoor.LawOps
open Go.RowKit
open Go.Proofs.YtdkdjgpeeglbhaaDoor.BlobMath
open Go.Proofs.YtdkdjgpeeglbhaaDoor.Span
open Go.Proofs.YtdkdjgpeeglbhaaDoor.Reads
open Go.Proofs.YtdkdjgpeeglbhaaDoor.Mem
open Go.Proofs.YtdkdjgpeeglbhaaDoor.Opp
open Go.Proofs.YtdkdjgpeeglbhaaDoor.RefOp
open Go.Proofs.YtdkdjgpeeglbhaaDoor.Longer
open Go.Proofs.YtdkdjgpeeglbhaaDoor.Parse
set_option linter.unusedVariables false
set_option linter.unusedSimpArgs false

theorem info9 : (Tryd.prog.info? 9).map (fun i => (i.zero, i.size, i.bytes)) = some (some (.string ⟨#[]⟩), 1, 16) := by kernel_rfl
/-- both give one text and one error -/
theorem ops_both (op : Int) (L : List ByteArray) (hL : Small L) (hn : 0 < L.length) (hb : L.length ≤ 140737488351232) :
    ∃ (r : ByteArray) (e : Int), (∀ w b o cap, SS w b o L → L.length ≤ cap → Calls Tryd.prog 22 #[.int .i64 op, .slice (some ⟨b, o, none⟩) L.length cap] w fun x w' => x = .returned (.tuple #[.string r, .int .i64 e]) ∧ Below w.heap.size w w') ∧
      (∀ w b o cap, SS w b o L → L.length ≤ cap → Calls Tryd.prog 23 #[.int .i64 op, .slice (some ⟨b, o, none⟩) L.length cap] w fun x w' => x = .returned (.tuple #[.string r, .int .i64 e]) ∧ Below w.heap.size w w') := by
  by_cases h : op < 1 ∨ 4 < op ∨ L.length = 0 ∨ (op = 4 ∧ 1 < L.length)
  · exact ⟨_, _, fun w b o cap hs hc => (op_bad op _ _ cap w hb h).mono fun x w' ⟨h1, h2⟩ => ⟨h1, by rw [h2]; exact Below.refl _ _⟩, fun w b o cap hs hc => (rop_bad op _ _ cap w hb h).mono fun x w' ⟨h1, h2⟩ => ⟨h1, by rw [h2]; exact Below.refl _ _⟩⟩
  · rcases (show op = 1 ∨ op = 2 ∨ op = 3 ∨ (op = 4 ∧ L.length ≤ 1) by omega) with rfl | rfl | rfl | ⟨rfl, h4⟩
    · exact ⟨_, _, fun w b o cap hs hc => op_1 b o cap L w hs hL hn hc hb, fun w b o cap hs hc => rop_1 b o cap L w hs hL hn hc hb⟩
    · exact ⟨_, _, fun w b o cap hs hc => op_2 b o cap L w hs hL hn hc hb, fun w b o cap hs hc => rop_2 b o cap L w hs hL hn hc hb⟩
    · exact ⟨_, _, fun w b o cap hs hc => op_3 b o cap L w hs hL hn hc hb, fun w b o cap hs hc => rop_3 b o cap L w hs hL hn hc hb⟩
    · exact ⟨_, _, fun w b o cap hs hc => op_4 b o cap L w hs hL hn hc hb h4, fun w b o cap hs hc => rop_4 b o cap L w hs hL hn hc hb h4⟩
def strC (L : List ByteArray) : List Value := L.map Value.string
/-- append(nil, l...) -/
theorem app_all {w : World} {b o cap : Nat} {L : List ByteArray} (h : SS w b o L) (hn : 0 < L.length) (hb : L.length ≤ 8796093022208) (ty : TypeId) :
    ∃ cap' w', (Builtin.append_ #[45, 45] ty #[.slice none 0 0, .slice (some ⟨b, o, none⟩) L.length cap]).run Tryd.prog w = .ok (.slice (some ⟨w.heap.size, 0, none⟩) L.length cap') w' ∧ SS w' w.heap.size 0 L ∧ L.length ≤ cap' ∧ Below w.heap.size w w' := by
  obtain ⟨i, hi, hz0, hz1, hz2⟩ := info_parts info9
  have hs : Src Tryd.prog i.size 45 (.slice (some ⟨b, o, none⟩) L.length cap) L.length (strC L) w := by
    rw [hz1]
    refine Src.ofSlice (P := Tryd.prog) w Tryd.underlying45 ⟨b, o, none⟩ L.length cap (strC L) (by simp [strC]) (fun j u hj => ?_) (fun u hu => by simp [strC] at hu; obtain ⟨_, _, rfl⟩ := hu; rfl)
    have hjl : j < L.length := by have := (List.getElem?_eq_some_iff.1 hj).1; simpa [strC] using this
    rw [add_off, h.cell j hjl, ← hj]
    simp [strC, hjl]
  have hold : (Builtin.firstCells i.size 0 (.slice none 0 0)).run Tryd.prog w.drew = .ok ([] : List Value).toArray w.drew := by
    simp [Builtin.firstCells]
  have hr := run_append_grow_src (P := Tryd.prog) w 45 45 ty 9 i (.string ⟨#[]⟩) Tryd.underlying45 hi hz0 none 0 0 [] hold _ L.length (strC L) hs (by omega) (by omega) (growslice_fits (by omega) (by rw [hz2]; omega))
  have hge := grownCap_ge w (0 + L.length) 0 9
  rw [Nat.zero_add] at hr hge
  refine ⟨_, _, hr, ⟨by simp, fun j hj => ?_⟩, hge, (Below.refl _ w).drew.alloc (Nat.le_refl _) _⟩
  rw [new_cell, Nat.zero_add, Array.getElem?_append_left (by simp [strC]; exact hj), List.getElem?_toArray]
  simp [strC, hj]
theorem app_none (w : World) (a : Option Addr) (c : Nat) (ty : TypeId) : (Builtin.append_ #[45, 45] ty #[.slice none 0 0, .slice a 0 c]).run Tryd.prog w = .ok (.slice none 0 0) w := by
  obtain ⟨i, hi, hz0, hz1, hz2⟩ := info_parts info9
  cases a <;> simp [Builtin.append_, run_underlying Tryd.underlying45, sizeOf, typeInfo, hi, Builtin.lenOf, Builtin.firstCells, storeCells, loadCells, loadCellsFrom]
set_option maxHeartbeats 1000000 in
set_option maxRecDepth 100000 in
theorem walk_none (op : Int) (a : Option Addr) (c : Nat) (w : World) (hh : Has w) :
    Calls Tryd.prog 7 #[.int .i64 op, .slice a 0 c] w fun e w' => e = .returned (.bool true) ∧ Below w.heap.size w w' := by
  have HH := hid_of hh
  have H1 := hid_of (fun w => op_bad op none 0 0 w (by omega) (.inr (.inr (.inl rfl))))
  have H2 := hid_of (fun w => rop_bad op a 0 c w (by omega) (.inr (.inr (.inl rfl))))
  have hr := app_none w a c 45
  clear hh
  go_enter Tryd.func7, Tryd.ntmps7
  go_wp2_with (at_builtin; refine wpl_eq rfl _ _ 45 45 rfl (.slice none 0 0) (.slice a 0 c) (.slice none 0 0) _ w rfl rfl hr ?_)
  refine (H1.out _).mono ?_
  rintro e w1 ⟨rfl, rfl⟩
  go_wp2_with fail
  refine (H2.out _).mono ?_
  rintro e w2 ⟨rfl, rfl⟩
  go_wp2_with fail
  go_loop [10] (fun x => x = .int .i64 0) (fun x => 1 - (intOf x).toNat)
  case atStart => rfl
  case round =>
    subst hrel
    go_wp2_with fail
    refine (Sure.sure_call _ HH.out).mono ?_
    rintro e w7 ⟨rfl, b7⟩
    go_wp2
    go_ret
    exact ⟨rfl, b7⟩
set_option maxHeartbeats 4000000 in
set_option maxRecDepth 100000 in
theorem walk_some (op : Int) (b o cap : Nat) (L : List ByteArray) (w : World) (hL : Small L) (hn : 0 < L.length) (hb : L.length ≤ 8796093022208) (hc : L.length ≤ cap) (h : SS w b o L) (hh : Has w) :
    Calls Tryd.prog 7 #[.int .i64 op, .slice (some ⟨b, o, none⟩) L.length cap] w fun e w' => e = .returned (.bool true) ∧ Below w.heap.size w w' := by
  have HH := hid_of hh
  obtain ⟨r, e, h1, h2⟩ := ops_both op L hL hn (by omega)
  obtain ⟨cap1, w1, hr, s1, hc1, b1⟩ := app_all (cap := cap) h hn hb 45
  have H1 := hid_of (h1 w1 w.heap.size 0 cap1 s1 hc1)
  have H2 := hid_of (fun W hW => h2 W b o cap hW hc)
  have HS := hid_of h
  have HS1 := hid_of s1
  have HB1 := hid_of b1
  have hbw := h.lt
  obtain ⟨n, HN⟩ : ∃ n, Hid (n = L.length) := ⟨_, hid_of rfl⟩
  rw [← HN.out] at H1 H2 hr hn hb hc hc1 ⊢
  clear h1 h2 s1 b1 h hh
  go_enter Tryd.func7, Tryd.ntmps7
  go_wp2_with (at_builtin; refine wpl_eq rfl _ _ 45 45 rfl (.slice none 0 0) (.slice (some ⟨b, o, none⟩) n cap) (.slice (some ⟨w.heap.size, 0, none⟩) n cap1) _ w1 rfl rfl hr ?_)
  refine H1.out.mono ?_
  rintro e w2 ⟨rfl, b2⟩
  have B2 := hid_of (bel HB1.out b2 (Nat.le_refl _))
  have S2 := hid_of (HS1.out.keep b2 HS1.out.lt)
  clear b2
  go_wp2_with fail
  refine (H2.out _ (HS.out.keep B2.out hbw)).mono ?_
  rintro e w3 ⟨rfl, b3⟩
  have B3 := hid_of (bel B2.out b3 (Nat.le_refl _))
  have S3 := hid_of (S2.out.keep b3 S2.out.lt)
  have T3 := hid_of (HS.out.keep B3.out hbw)
  clear b3 B2 S2 H1 H2 hr HS1 HB1
  go_wp2_with fail
  go_loopg [10] n (fun gh x wx => ∃ i : Nat, i ≤ n ∧ n ≤ i + gh ∧ x = .int .i64 (i : Int) ∧ Hid (∃ m, wx = w3.drewN m))
  case atStart => exact ⟨0, Nat.zero_le _, by omega, rfl, 0, rfl⟩
  case round =>
    obtain ⟨i, hi, hgh, rfl, HW⟩ := hrel
    by_cases hlt : i < n
    · obtain ⟨gO, rfl⟩ : ∃ gO, gk = gO + 1 := ⟨gk - 1, by omega⟩
      obtain ⟨m, hm⟩ := HW.out
      subst hm
      have hil : i < L.length := by have := HN.out; omega
      have c1 := S3.out.cell i hil
      rw [Nat.zero_add] at c1
      have c2 := T3.out.cell i hil
      obtain ⟨s, Hs⟩ : ∃ s, Hid (s = L[i]) := ⟨_, hid_of rfl⟩
      rw [← Hs.out] at c1 c2
      have e1 : (0 : Int) ≤ (i : Int) := by omega
      have e2 : (i : Int) < (n : Int) := by omega
      have hne : (s.toList != s.toList) = false := by simp
      go_wp2_with fail
      go_quiet (fail)
      go_wp2_with fail
      go_roundg gO
      case measure => omega
      case rel => exact ⟨i + 1, hlt, by omega, by go_num, _, rfl⟩
    · have B4 : Hid (Below w.heap.size w wr) := by
        obtain ⟨m, hm⟩ := HW.out
        rw [hm]
        exact bel B3.out (Reads.below_drewN _ _) (Nat.le_refl _)
      clear HW hgh
      go_wp2_with fail
      refine (Sure.sure_call _ (HH.out.later B4.out)).mono ?_
      rintro e w7 ⟨rfl, b7⟩
      go_wp2
      go_ret
      exact ⟨rfl, bel B4.out b7 (Nat.le_refl _)⟩
end Go.Proofs.YtdkdjgpeeglbhaaDoor.LawOps
