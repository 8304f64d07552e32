/- The contract of num.Parse: the number whose one text it is, or none; old memory stands. Commands on keys: what their small calls answer; boxes beside a space. Commands on keys: what is done beside a space's calls; EXISTS, PING, SCAN of no cursor. -/
import Derived.Test.YtminfpkigenahaaGreatDoorQBaseM
import Derived.Lib.AtoiAllCases
import Derived.Lib.ConvBytes
import Derived.Deep.RegionHeld3
import Derived.Test.YtminfpkigenahaaGreatDoorShelfM
import Derived.Deep.LoopGhost
section
namespace Go.Proofs.YtminfpkigenahaaGreatDoor.Parse
open Go.RowKit
open Go.Lib (decDigits itoa)
open Go.Proofs.YtminfpkigenahaaGreatDoor.TextMath
open Go.Proofs.YtminfpkigenahaaGreatDoor.Print
open Go.Proofs.YtminfpkigenahaaGreatDoor.ParsedM
set_option linter.unusedVariables false
set_option linter.unusedSimpArgs false

theorem row_below (w : World) (s : ByteArray) : Below w.heap.size w (Lib.bytesWorld w 5 s) := by
  refine ⟨?_, ?_, ?_, ?_, ?_⟩
  · unfold Lib.bytesWorld World.freeze; rfl
  · unfold Lib.bytesWorld World.freeze; rfl
  · unfold Lib.bytesWorld World.freeze; rfl
  · rw [Lib.bytesWorld_size]; omega
  · intro k hk; exact Lib.bytesWorld_at_old w 5 s k hk
theorem atoi_ok (s : ByteArray) (hs : s.size ≤ 140737488351232) (v : Int) (h : Lib.atoiAll s.data.toList = .ok v) (w : World) :
    Calls Tryz.prog 129 #[.string s] w fun e w' => e = .returned (.tuple #[.int .i64 v, .nilIface]) ∧ Below w.heap.size w w' :=
  (Tryz.strconv_Atoi_ok s (by omega) v h w).mono fun e w' ⟨h1, h2⟩ => ⟨h1, by
    rcases h2 with rfl | ⟨t, rfl⟩
    · exact Below.refl _ _
    · exact row_below w t⟩

/-- what the row's list gives: the table, and the two errors -/
structure Has (w : World) : Prop where
  tab : Tab w
  syn : ∃ tp p, w.var? Tryz.prog "strconv.ErrSyntax" = some #[.iface tp p]
  rng : ∃ tp p, w.var? Tryz.prog "strconv.ErrRange" = some #[.iface tp p]
theorem var_lt {w : World} {n : String} {g : Nat} {cs : Array Value} (hg : Tryz.prog.globalNamed n = some g) (h : w.var? Tryz.prog n = some cs) : g < w.heap.size := by
  unfold World.var? at h
  rw [hg] at h
  simp only [Option.bind_some] at h
  rcases Nat.lt_or_ge g w.heap.size with q | q
  · exact q
  · rw [Array.getElem?_eq_none q] at h; simp at h
theorem Has.later {w w' : World} (h : Has w) (hb : Below w.heap.size w w') : Has w' := by
  obtain ⟨h1, ⟨tp, p, h2⟩, ⟨tq, q, h3⟩⟩ := h
  exact ⟨var?_below hb Laid.gPow (var_lt Laid.gPow h1) h1, ⟨tp, p, var?_below hb Laid.gSyn (var_lt Laid.gSyn h2) h2⟩, ⟨tq, q, var?_below hb Laid.gRng (var_lt Laid.gRng h3) h3⟩⟩

set_option maxHeartbeats 1000000 in
theorem parse_same (s : ByteArray) (v : Int) (w : World) (hs : s.size ≤ 140737488351232) (h : Lib.atoiAll s.data.toList = .ok v) (hv : itoa v = s.data.toList) (hh : Has w) :
    Calls Tryz.prog 111 #[.string s] w fun e w' => e = .returned (.tuple #[.int .i64 v, .int .i64 0]) ∧ Below w.heap.size w w' := by
  have hb := Lib.atoiAll_bounds h
  have H := hid_of h
  have HH := hid_of hh
  have hcmp : (itoa v == s.toList) = true := by rw [Lib.toList_data, beq_iff_eq]; exact hv
  have HB := hid_of hb
  clear h hh hv hb
  go_enter Tryz.func111, Tryz.ntmps111
  go_wp2_with fail
  refine (atoi_ok s hs v H.out _).mono ?_
  rintro e w1 ⟨rfl, b1⟩
  go_wp2_with fail
  refine (print_any v _ HB.out (HH.out.later b1).tab).mono ?_
  rintro e w2 ⟨rfl, b2⟩
  go_wp2
  go_ret2
  exact ⟨rfl, bel b1 b2 (Nat.le_refl _)⟩
set_option maxHeartbeats 1000000 in
theorem parse_other (s : ByteArray) (v : Int) (w : World) (hs : s.size ≤ 140737488351232) (h : Lib.atoiAll s.data.toList = .ok v) (hv : itoa v ≠ s.data.toList) (hh : Has w) :
    Calls Tryz.prog 111 #[.string s] w fun e w' => e = .returned (.tuple #[.int .i64 0, .int .i64 10]) ∧ Below w.heap.size w w' := by
  have hb := Lib.atoiAll_bounds h
  have H := hid_of h
  have HH := hid_of hh
  have hcmp : (itoa v == s.toList) = false := by rw [Lib.toList_data, beq_eq_false_iff_ne]; exact hv
  have HB := hid_of hb
  clear h hh hb hv
  go_enter Tryz.func111, Tryz.ntmps111
  go_wp2_with fail
  refine (atoi_ok s hs v H.out _).mono ?_
  rintro e w1 ⟨rfl, b1⟩
  go_wp2_with fail
  refine (print_any v _ HB.out (HH.out.later b1).tab).mono ?_
  rintro e w2 ⟨rfl, b2⟩
  go_wp2
  go_ret2
  exact ⟨rfl, bel b1 b2 (Nat.le_refl _)⟩
set_option maxHeartbeats 1000000 in
theorem parse_none (s : ByteArray) (w : World) (hs : s.size ≤ 140737488351232) (h : ∀ v, Lib.atoiAll s.data.toList ≠ .ok v) (hh : Has w) :
    Calls Tryz.prog 111 #[.string s] w fun e w' => e = .returned (.tuple #[.int .i64 0, .int .i64 10]) ∧ Below w.heap.size w w' := by
  obtain ⟨_, ⟨tp, p, h2⟩, ⟨tq, q, h3⟩⟩ := hh
  have H := hid_of h
  have H2 := hid_of h2
  have H3 := hid_of h3
  clear h h2 h3
  go_enter Tryz.func111, Tryz.ntmps111
  go_wp2_with fail
  refine (Tryz.strconv_Atoi_no s (by omega) H.out tp tq p q _ H2.out H3.out).mono ?_
  rintro e w1 ⟨n, N, rfl, b1⟩
  go_wp2
  go_ret2
  exact ⟨rfl, b1⟩

theorem parsed_ex (l : List UInt8) : ∃ n e, Parsed l n e := by
  by_cases h : ∃ m, textB m l = true
  · obtain ⟨m, h⟩ := h
    exact ⟨m, 0, .inl ⟨h, rfl⟩⟩
  · refine ⟨0, 10, .inr ⟨fun m => ?_, rfl, rfl⟩⟩
    cases e : textB m l
    · rfl
    · exact absurd ⟨m, e⟩ h
theorem parse_any (s : ByteArray) (w : World) (n e : Int) (hs : s.size ≤ 140737488351232) (HP : Parsed s.data.toList n e) (hh : Has w) :
    Calls Tryz.prog 111 #[.string s] w fun x w' => x = .returned (.tuple #[.int .i64 n, .int .i64 e]) ∧ Below w.heap.size w w' := by
  by_cases h : ∃ v, Lib.atoiAll s.data.toList = .ok v
  · obtain ⟨v, hv⟩ := h
    by_cases hi : itoa v = s.data.toList
    · have hp := some_of HP ((text_iff v _).2 ⟨Lib.atoiAll_bounds hv, hi⟩)
      rw [hp.1, hp.2]
      exact parse_same s v w hs hv hi hh
    · have hp := none_of HP (fun m => by
        cases q : textB m s.data.toList
        · rfl
        · exfalso
          have q' := (text_iff _ _).1 q
          have := atoi_itoa m q'.1
          rw [q'.2, hv] at this
          injection this with this
          subst this
          exact hi q'.2)
      rw [hp.1, hp.2]
      exact parse_other s v w hs hv hi hh
  · have hp := none_of HP (fun m => by
      cases q : textB m s.data.toList
      · rfl
      · exfalso
        have q' := (text_iff _ _).1 q
        have := atoi_itoa m q'.1
        rw [q'.2] at this
        exact h ⟨m, this⟩)
    rw [hp.1, hp.2]
    exact parse_none s w hs (fun v q => h ⟨v, q⟩) hh
end Go.Proofs.YtminfpkigenahaaGreatDoor.Parse
end
section
namespace Go.Proofs.YtminfpkigenahaaGreatDoor.KCmd
open Go.RowKit Go.Maps
open Go.Proofs.YtminfpkigenahaaGreatDoor.SpaceMath (wout withL lkp keys Ris toD)
open Go.Proofs.YtminfpkigenahaaGreatDoor.ValueMath (Vl chk small)
open Go.Proofs.YtminfpkigenahaaGreatDoor.Base (mk mk_list mk_size Gr hid_of SL)
open Go.Proofs.YtminfpkigenahaaGreatDoor.Turn
open Go.Proofs.YtminfpkigenahaaGreatDoor.Vals
open Go.Proofs.YtminfpkigenahaaGreatDoor.Check0 (Wel)
open Go.Proofs.YtminfpkigenahaaGreatDoor.SBase
open Go.Proofs.YtminfpkigenahaaGreatDoor.SFind
open Go.Proofs.YtminfpkigenahaaGreatDoor.SSet (box8)
open Go.Proofs.YtminfpkigenahaaGreatDoor.SPut (vO)
open Go.Proofs.YtminfpkigenahaaGreatDoor.QBase
open Go.Proofs.YtminfpkigenahaaGreatDoor.Parse (Has)
open Go.Proofs.YtminfpkigenahaaGreatDoor.TextMath
open Go.Lib (decDigits itoa)
set_option linter.unusedVariables false
set_option linter.unusedSimpArgs false
abbrev numB : ByteArray := ⟨#[69, 82, 82, 32, 97, 32, 110, 117, 109, 98, 101, 114, 32, 105, 115, 32, 119, 97, 110, 116, 101, 100]⟩
abbrev okB : ByteArray := ⟨#[79, 75]⟩
abbrev synB : ByteArray := ⟨#[69, 82, 82, 32, 115, 121, 110, 116, 97, 120]⟩
abbrev nokB : ByteArray := ⟨#[69, 82, 82, 32, 110, 111, 32, 115, 117, 99, 104, 32, 107, 101, 121]⟩
abbrev dlB : ByteArray := ⟨#[69, 82, 82, 32, 116, 104, 101, 32, 100, 101, 97, 100, 108, 105, 110, 101, 32, 109, 97, 121, 32, 110, 111, 116, 32, 98, 101]⟩
abbrev curB : ByteArray := ⟨#[69, 82, 82, 32, 116, 104, 101, 32, 99, 117, 114, 115, 111, 114, 32, 109, 97, 121, 32, 110, 111, 116, 32, 98, 101]⟩
abbrev busyB : ByteArray := ⟨#[66, 85, 83, 89, 75, 69, 89, 32, 116, 104, 101, 32, 107, 101, 121, 32, 105, 115, 32, 116, 104, 101, 114, 101]⟩
abbrev bytB : ByteArray := ⟨#[69, 82, 82, 32, 116, 104, 101, 32, 98, 121, 116, 101, 115, 32, 97, 114, 101, 32, 110, 111, 32, 118, 97, 108, 117, 101, 39, 115]⟩
abbrev arB : ByteArray := ⟨#[69, 82, 82, 32, 119, 114, 111, 110, 103, 32, 110, 117, 109, 98, 101, 114, 32, 111, 102, 32, 97, 114, 103, 117, 109, 101, 110, 116, 115, 58, 32, 112, 105, 110, 103]⟩
abbrev pongB : ByteArray := ⟨#[80, 79, 78, 71]⟩
abbrev rp (k : Int) (T : ByteArray) (n : Int) : Value := .agg #[.int .i64 k, .string T, .int .i64 n, .slice none 0 0]
abbrev rO (k : Int) (T : ByteArray) (n : Int) (L : Value) : Obj := .cells #[.int .i64 k, .string T, .int .i64 n, L] 35
theorem box4 {w : World} {b : Nat} {x0 x1 x2 x3 : Value} {t : TypeId} (h : w.heap[b]? = some (.cells #[x0, x1, x2, x3] t (0, 0))) :
    (w.cell? ⟨b, 0, none⟩ = some x0 ∧ w.cell? ⟨b, 1, none⟩ = some x1 ∧ w.cell? ⟨b, 2, none⟩ = some x2 ∧ w.cell? ⟨b, 3, none⟩ = some x3) ∧ ∀ i, w.frozen? ⟨b, i, none⟩ = false :=
  ⟨⟨Lib.cell_of_heap h 0, Lib.cell_of_heap h 1, Lib.cell_of_heap h 2, Lib.cell_of_heap h 3⟩, fun i => Lib.frozen_of_heap h i⟩
def fin4 (w : World) (q : Nat) (y0 y1 y2 y3 : Value) : World := (((w.setCell ⟨q, 0, none⟩ y0).setCell ⟨q, 1, none⟩ y1).setCell ⟨q, 2, none⟩ y2).setCell ⟨q, 3, none⟩ y3
theorem fin4_at {w : World} {q : Nat} {x0 x1 x2 x3 : Value} {t : TypeId} (h : w.heap[q]? = some (.cells #[x0, x1, x2, x3] t (0, 0))) (y0 y1 y2 y3 : Value) : (fin4 w q y0 y1 y2 y3).heap[q]? = some (.cells #[y0, y1, y2, y3] t (0, 0)) := by
  unfold fin4
  simpa using set_at (i := 3) (set_at (i := 2) (set_at (i := 1) (set_at (i := 0) h y0) y1) y2) y3
theorem fin4_b {B q : Nat} {w0 w : World} {y0 y1 y2 y3 : Value} (h : Below B w0 w) (hq : B ≤ q) : Below B w0 (fin4 w q y0 y1 y2 y3) := bset (bset (bset (bset h hq y0) hq y1) hq y2) hq y3
set_option maxRecDepth 100000 in
theorem refused_call (T : ByteArray) (w : World) : Calls Tryz.prog 66 #[.string T] w fun e w' => e = .returned (rp 2 T 0) ∧ Below w.heap.size w w' := by
  go_enter Tryz.func66, Tryz.ntmps66
  go_wp2_with fail
  exact bodyPost_ret (v := rp 2 T 0) (by simp [results, Tryz.results66, go_sem]) rfl ⟨rfl, alb _ _⟩
set_option maxRecDepth 100000 in
theorem count_call (n : Int) (w : World) : Calls Tryz.prog 69 #[.int .i64 n] w fun e w' => e = .returned (rp 3 ⟨#[]⟩ n) ∧ Below w.heap.size w w' := by
  go_enter Tryz.func69, Tryz.ntmps69
  go_wp2_with fail
  exact bodyPost_ret (v := rp 3 ⟨#[]⟩ n) (by simp [results, Tryz.results69, go_sem]) rfl ⟨rfl, alb _ _⟩
set_option maxRecDepth 100000 in
theorem bulk_call (T : ByteArray) (w : World) : Calls Tryz.prog 76 #[.string T] w fun e w' => e = .returned (rp 4 T 0) ∧ Below w.heap.size w w' := by
  go_enter Tryz.func76, Tryz.ntmps76
  go_wp2_with fail
  exact bodyPost_ret (v := rp 4 T 0) (by simp [results, Tryz.results76, go_sem]) rfl ⟨rfl, alb _ _⟩
set_option maxRecDepth 100000 in
theorem null_call  (w : World) : Calls Tryz.prog 74 #[] w fun e w' => e = .returned (rp 5 ⟨#[]⟩ 0) ∧ Below w.heap.size w w' := by
  go_enter Tryz.func74, Tryz.ntmps74
  go_wp2_with fail
  exact bodyPost_ret (v := rp 5 ⟨#[]⟩ 0) (by simp [results, Tryz.results74, go_sem]) rfl ⟨rfl, alb _ _⟩
set_option maxRecDepth 100000 in
theorem simple_call (T : ByteArray) (w : World) : Calls Tryz.prog 85 #[.string T] w fun e w' => e = .returned (rp 1 T 0) ∧ Below w.heap.size w w' := by
  go_enter Tryz.func85, Tryz.ntmps85
  go_wp2_with fail
  exact bodyPost_ret (v := rp 1 T 0) (by simp [results, Tryz.results85, go_sem]) rfl ⟨rfl, alb _ _⟩
abbrev cV (b : Nat) (now : Int) (a : Option Addr) (n c : Nat) : Value := .agg #[ptr b, .int .i64 now, .slice a n c]
abbrev cO (b : Nat) (now : Int) (a : Option Addr) (n c : Nat) : Obj := .cells #[ptr b, .int .i64 now, .slice a n c] 84
/- two boxes laid one behind the other -/
theorem two_boxes (w : World) (o1 o2 : Obj) (h1 : ∃ cs t, o1 = .cells cs t (0, 0)) : Below w.heap.size w ((w.alloc o1).alloc o2) ∧ ((w.alloc o1).alloc o2).heap[w.heap.size]? = some o1 ∧ ((w.alloc o1).alloc o2).heap[w.heap.size + 1]? = some o2 ∧ ((w.alloc o1).alloc o2).heap.size = w.heap.size + 2 := by
  refine ⟨FRow.bel (alb _ _) (alb _ _) (Nat.le_refl _), ?_, ?_, by simp⟩
  · rw [Below.heap_alloc _ _ _ (by simp)]
    exact heap_alloc_new w _
  · have := heap_alloc_new (w.alloc o1) o2
    simpa using this
theorem vn_form {B : Nat} {w : World} {v : Value} {x : Vl} (h : VN B w v x) : ∃ a n c a' n' c' a'' n'' c'', v = .agg #[.int .i64 x.kind, .string (mk x.text), .slice a n c, .slice a' n' c', .slice a'' n'' c''] := by
  obtain ⟨a, b, c, rfl, h1, h2, h3⟩ := h
  obtain ⟨a1, c1, rfl, _⟩ := h1.shape
  obtain ⟨a2, c2, rfl⟩ := shapeFRow h2
  obtain ⟨a3, c3, rfl⟩ := shapeERow h3
  exact ⟨_, _, _, _, _, _, _, _, _, rfl⟩
/- boxes of a call's own beside a space -/
abbrev Tmp (w W : World) (k : Nat) : Prop := w.heap.size ≤ k ∧ k < W.heap.size
section
variable {F X : Nat → Prop} {b : Nat} {w W w1 w2 : World} {S S' : Sp}
theorem sp_wide (h : SP F X b w S) (hb : Below w.heap.size w W) : SP F (fun k => X k ∨ Tmp w W k) b W S :=
  h.re (fun k q => hb.block k (h.lo k q)) (Ev.of_below hb) (fun k hk q => q.elim id (fun q => by unfold Tmp at q; omega)) (fun k q => .inl (h.fx k q)) (fun k q => q.elim (fun q => Nat.lt_of_lt_of_le (h.xl k q) hb.size) (fun q => q.2))
theorem dn_tmp (h0 : SP F X b w S) (hb : Below w.heap.size w W) (h : Dn F (fun k => X k ∨ Tmp w W k) b W w1 S') (e : Ev (Tmp w W) w1 w2) : Dn F X b w w2 S' := by
  obtain ⟨F', s, ev, n⟩ := h
  have nt : ∀ k, F' k → ¬ Tmp w W k := fun k q t => by
    unfold Tmp at t
    rcases n k q with q | q
    · have := h0.lo k q; omega
    · omega
  have eW : Ev F w W := Ev.of_below hb
  refine ⟨F', s.re (fun k q => e.block k (s.lo k q) (nt k q)) (e.mono fun k _ q => .inl (.inr q)) (fun k _ q => q.elim (fun q => .inl (.inl q)) .inr) (fun k q => .inr q) (fun k q => q.elim (fun q => Nat.lt_of_lt_of_le (s.xl k (.inl (.inl q))) e.size) (fun q => Nat.lt_of_lt_of_le (s.lo k q) e.size)), ?_, fun k q => (n k q).imp id (fun q => Nat.le_trans hb.size q)⟩
  have e1 : Ev F w w1 := eW.trans ev
  refine ⟨e.os.trans e1.os, e.tape.trans e1.tape, e.output.trans e1.output, Nat.le_trans e1.size e.size, fun k hk hn => (e.block k (Nat.lt_of_lt_of_le hk e1.size) (fun t => by unfold Tmp at t; omega)).trans (e1.block k hk hn)⟩
/-- what stands beside -/
theorem dn_block {Y : Nat → Prop} (h0 : SP F Y b w S) (hb : Below w.heap.size w W) (h : Dn F X b W w1 S') {k : Nat} (hk : Tmp w W k) : w1.heap[k]? = W.heap[k]? := by
  obtain ⟨F', s, ev, n⟩ := h
  exact ev.block k hk.2 (fun q => by have := h0.lo k q; unfold Tmp at hk; omega)
theorem dn_size (h : Dn F X b W w1 S') : W.heap.size ≤ w1.heap.size := by
  obtain ⟨F', s, ev, n⟩ := h
  exact ev.size
end
/-- a space that a step more may be done on -/
structure Room (S : Sp) : Prop where
  m : S.mrk = none
  c : S.cnt + 1 < 18446744073709551616
  n : S.l.length + 1 < 1099511627776
theorem three_boxes (w : World) (o1 o2 o3 : Obj) : Below w.heap.size w (((w.alloc o1).alloc o2).alloc o3) ∧ (((w.alloc o1).alloc o2).alloc o3).heap[w.heap.size]? = some o1 ∧ (((w.alloc o1).alloc o2).alloc o3).heap[w.heap.size + 1]? = some o2 ∧ (((w.alloc o1).alloc o2).alloc o3).heap[w.heap.size + 2]? = some o3 ∧ (((w.alloc o1).alloc o2).alloc o3).heap.size = w.heap.size + 3 := by
  refine ⟨FRow.bel (FRow.bel (alb _ _) (alb _ _) (Nat.le_refl _)) (alb _ _) (Nat.le_refl _), ?_, ?_, ?_, by simp⟩
  · rw [Below.heap_alloc _ _ _ (by simp; omega), Below.heap_alloc _ _ _ (by simp)]
    exact heap_alloc_new w _
  · rw [Below.heap_alloc _ _ _ (by simp)]
    have := heap_alloc_new (w.alloc o1) o2
    simpa using this
  · have := heap_alloc_new ((w.alloc o1).alloc o2) o3
    simpa using this
theorem ev_fin4 {w W w1 : World} {q : Nat} (hq : Tmp w W q) (y0 y1 y2 y3 : Value) : Ev (Tmp w W) w1 (fin4 w1 q y0 y1 y2 y3) := by
  unfold fin4
  exact (((Ev.set (M := Tmp w W) hq y0).trans (Ev.set (M := Tmp w W) hq y1)).trans (Ev.set (M := Tmp w W) hq y2)).trans (Ev.set (M := Tmp w W) hq y3)
theorem fin4_ne {w : World} {q k : Nat} (h : k ≠ q) {y0 y1 y2 y3 : Value} : (fin4 w q y0 y1 y2 y3).heap[k]? = w.heap[k]? := by
  unfold fin4
  rw [set_ne h, set_ne h, set_ne h, set_ne h]
abbrev kV (s k : Int) : Value := .agg #[.int .i64 s, .int .i64 k]
abbrev kO (s k : Int) : Obj := .cells #[.int .i64 s, .int .i64 k] 135
theorem sl_get {G : Nat → Prop} {w : World} {a : Option Addr} {n c : Nat} {l : List Base.El} (h : SL G w (.slice a n c) l) : n = l.length ∧ ∀ i (hi : i < l.length), ∃ ga oa, a = some ⟨ga, oa, none⟩ ∧ w.cell? ⟨ga, oa + i, none⟩ = some (.string (mk l[i])) := by
  obtain ⟨a0, c0, e, hc, hr⟩ := h
  injection e with e1 e2 e3
  subst e1 e2 e3
  refine ⟨rfl, fun i hi => ?_⟩
  obtain ⟨g, o, eg, hG, hcs⟩ := Base.Rd.get hr (by omega)
  exact ⟨g, o, eg, hcs i l[i] (List.getElem?_eq_getElem hi)⟩
set_option maxRecDepth 100000 in
theorem ok_call (w : World) : Calls Tryz.prog 80 #[] w fun e w' => e = .returned (rp 1 okB 0) ∧ Below w.heap.size w w' := by
  obtain ⟨W, hW⟩ : ∃ W, W = w.alloc (rO 0 ⟨#[]⟩ 0 (.slice none 0 0)) := ⟨_, rfl⟩
  have HB := hid_of (show Below w.heap.size w W by rw [hW]; exact alb _ _)
  have HX := hid_of (show W.heap[w.heap.size]? = some (rO 0 ⟨#[]⟩ 0 (.slice none 0 0)) by rw [hW]; exact heap_alloc_new w _)
  have H1 := hid_of (simple_call okB W)
  have HW := hid_of hW
  clear hW
  go_enter Tryz.func80, Tryz.ntmps80
  go_wp2_with fail
  rw [← HW.out]
  refine H1.out.mono ?_
  rintro e w1 ⟨rfl, b1⟩
  have x1 := (b1.block _ (lt_of HX.out)).trans HX.out
  have B1 := FRow.bel HB.out b1 (Nat.le_refl _)
  obtain ⟨⟨y0, y1, y2, y3⟩, fy⟩ := box4 x1
  have fy0 := fy 0
  have fy1 := fy 1
  have fy2 := fy 2
  have fy3 := fy 3
  have hz := fin4_at x1 (.int .i64 1) (.string okB) (.int .i64 0) (.slice none 0 0)
  have hb := fin4_b (y0 := .int .i64 1) (y1 := .string okB) (y2 := .int .i64 0) (y3 := .slice none 0 0) B1 (Nat.le_refl w.heap.size)
  unfold fin4 at hz hb
  clear b1 fy x1 H1 B1
  go_wp2_with fail
  obtain ⟨⟨g0, g1, g2, g3⟩, -⟩ := box4 hz
  exact bodyPost_ret (v := rp 1 okB 0) (by simp [results, Tryz.results80, go_sem, g0, g1, g2, g3]) rfl ⟨rfl, hb⟩
section
variable {F X : Nat → Prop} {b : Nat} {w : World} {S : Sp}
set_option maxHeartbeats 2000000 in
set_option maxRecDepth 100000 in
theorem there_call (h : SP F X b w S) (k : Bs) (hk : k.length ≤ 281474976710656) (now : Int) (a : Option Addr) (n c : Nat) :
    Calls Tryz.prog 67 #[cV b now a n c, .string (mk k)] w fun e w' => e = .returned (.bool (gt S now k).isSome) ∧ Below w.heap.size w w' := by
  obtain ⟨W, hW⟩ : ∃ W, W = w.alloc (cO b now a n c) := ⟨_, rfl⟩
  have bW : Below w.heap.size w W := by rw [hW]; exact alb _ _
  have HB := hid_of bW
  have HW := hid_of hW
  have H1 := hid_of (due_call (h.below bW) k hk now)
  clear hW bW h
  generalize dueV S now k = d at *
  generalize (gt S now k).isSome = q at *
  go_enter Tryz.func67, Tryz.ntmps67
  go_wp2_with fail
  rw [← HW.out]
  refine H1.out.mono ?_
  rintro e w1 ⟨rfl, b1⟩
  have HB1 := hid_of (FRow.bel HB.out b1 (Nat.le_refl _))
  clear b1
  go_wp2_with fail
  go_ret
  exact ⟨rfl, HB1.out⟩
end
/-- the number that a text is -/
def prs (l : Bs) : Option Int := match Lib.atoiAll l with
  | .ok v => if itoa v = l then some v else none
  | _ => none
theorem prs_some {l : Bs} {v : Int} (h : prs l = some v) : textB v l = true := by
  unfold prs at h
  split at h
  · rename_i u hu
    split at h
    · rename_i hi
      cases h
      exact (text_iff _ _).2 ⟨Lib.atoiAll_bounds hu, hi⟩
    · cases h
  · cases h
theorem prs_none {l : Bs} (h : prs l = none) : ∀ v, textB v l = false := fun v => by
  cases q : textB v l with
  | false => rfl
  | true =>
    exfalso
    have q' := (text_iff _ _).1 q
    have := atoi_itoa v q'.1
    rw [q'.2] at this
    unfold prs at h
    rw [this] at h
    simp [q'.2] at h
theorem prs_itoa {v : Int} (h : InI v) : prs (itoa v) = some v := by
  unfold prs
  rw [atoi_itoa v h]
  simp
theorem isE (T : ByteArray) (l : Bs) (h : T.data.toList = l) : T.toList.isEmpty = l.isEmpty := by
  rw [show T = mk l from by rw [← h]; rfl, mk_list]
set_option maxHeartbeats 1000000 in
set_option maxRecDepth 100000 in
theorem number_call (T : ByteArray) (hT : T.size ≤ 140737488351232) (w : World) (hh : Has w) :
    Calls Tryz.prog 87 #[.string T] w fun e w' => e = .returned (.tuple #[.int .i64 ((prs T.data.toList).getD 0), .string (if (prs T.data.toList).isSome then ⟨#[]⟩ else numB)]) ∧ Below w.heap.size w w' := by
  cases hp : prs T.data.toList with
  | some v =>
    have H := hid_of (Parse.parse_any T w v 0 hT (.inl ⟨prs_some hp, rfl⟩) hh)
    clear hT hh hp
    show Calls Tryz.prog 87 #[.string T] w fun e w' => e = .returned (.tuple #[.int .i64 v, .string ⟨#[]⟩]) ∧ Below w.heap.size w w'
    go_enter Tryz.func87, Tryz.ntmps87
    go_wp2_with fail
    refine H.out.mono ?_
    rintro e w1 ⟨rfl, b1⟩
    have B := hid_of b1
    clear b1
    go_wp2_with fail
    go_ret2
    exact ⟨rfl, B.out⟩
  | none =>
    have H := hid_of (Parse.parse_any T w 0 10 hT (.inr ⟨prs_none hp, rfl, rfl⟩) hh)
    clear hT hh hp
    show Calls Tryz.prog 87 #[.string T] w fun e w' => e = .returned (.tuple #[.int .i64 0, .string numB]) ∧ Below w.heap.size w w'
    go_enter Tryz.func87, Tryz.ntmps87
    go_wp2_with fail
    refine H.out.mono ?_
    rintro e w1 ⟨rfl, b1⟩
    have B := hid_of b1
    clear b1
    go_wp2_with fail
    go_ret2
    exact ⟨rfl, B.out⟩
end Go.Proofs.YtminfpkigenahaaGreatDoor.KCmd
end
section
namespace Go.Proofs.YtminfpkigenahaaGreatDoor.KEx
open Go.RowKit Go.Maps
open Go.Proofs.YtminfpkigenahaaGreatDoor.SpaceMath (wout withL lkp keys Ris toD)
open Go.Proofs.YtminfpkigenahaaGreatDoor.ValueMath (Vl chk small)
open Go.Proofs.YtminfpkigenahaaGreatDoor.Base (mk mk_list mk_size Gr hid_of SL)
open Go.Proofs.YtminfpkigenahaaGreatDoor.Turn
open Go.Proofs.YtminfpkigenahaaGreatDoor.Vals
open Go.Proofs.YtminfpkigenahaaGreatDoor.Check0 (Wel)
open Go.Proofs.YtminfpkigenahaaGreatDoor.SBase
open Go.Proofs.YtminfpkigenahaaGreatDoor.SFind
open Go.Proofs.YtminfpkigenahaaGreatDoor.SPut (vO)
open Go.Proofs.YtminfpkigenahaaGreatDoor.QBase
open Go.Proofs.YtminfpkigenahaaGreatDoor.KCmd
open Go.Proofs.YtminfpkigenahaaGreatDoor.Parse (Has)
set_option linter.unusedVariables false
set_option linter.unusedSimpArgs false
/-- a call that only reads, behind others -/
theorem rd_dn {F X : Nat → Prop} {b : Nat} {W V : World} {S : Sp} (D : Dn F X b W V S) {f : FuncId} {args : Array Value} {R : Ending} (h : ∀ F1, SP F1 (fun k => X k ∨ F1 k) b V S → Calls Tryz.prog f args V fun r w' => r = R ∧ Below V.heap.size V w') :
    Calls Tryz.prog f args V fun r w' => r = R ∧ Below V.heap.size V w' ∧ Dn F X b W w' S := by
  obtain ⟨F1, s1, ev1, n1⟩ := id D
  exact (h F1 s1).mono fun r w' ⟨h1, h2⟩ => ⟨h1, h2, SDrop.dn_below D h2⟩
/-- a call that writes, behind others -/
theorem wr_dn {F X : Nat → Prop} {b : Nat} {W V : World} {S S' : Sp} (D : Dn F X b W V S) {f : FuncId} {args : Array Value} {R : Ending} (h : ∀ F1, SP F1 (fun k => X k ∨ F1 k) b V S → Calls Tryz.prog f args V fun r w' => r = R ∧ Dn F1 (fun k => X k ∨ F1 k) b V w' S') :
    Calls Tryz.prog f args V fun r w' => r = R ∧ Dn F X b W w' S' := by
  obtain ⟨F1, s1, ev1, n1⟩ := D
  exact (h F1 s1).mono fun r w' ⟨h1, h2⟩ => ⟨h1, Dn.trans (S1 := S) ev1 n1 h2⟩
/-- a cell that the space has not -/
theorem dn_cell {F X : Nat → Prop} {b : Nat} {W V : World} {S : Sp} (D : Dn F X b W V S) {p : Addr} {v : Value} (hc : W.cell? p = some v) (hF : ¬ F p.block) : V.cell? p = some v := by
  obtain ⟨F1, s1, ev1, n1⟩ := D
  exact (World.cell?_of_block (ev1.block p.block (block_lt_of_cell hc) hF)).trans hc
theorem dn_self {F X : Nat → Prop} {b : Nat} {w W : World} {S : Sp} (h : SP F X b w S) (hb : Below w.heap.size w W) : Dn F (fun k => X k ∨ KCmd.Tmp w W k) b W W S := Dn.of (sp_wide h hb) (Below.refl _ W)
def exM (S : Sp) (now : Int) (l : List Bs) : Nat := (l.filter fun k => (gt S now k).isSome).length
theorem exM_take (S : Sp) (now : Int) (l : List Bs) (i : Nat) (hi : i < l.length) : exM S now (l.take (i + 1)) = exM S now (l.take i) + (if (gt S now l[i]).isSome then 1 else 0) := by
  unfold exM
  rw [List.take_succ_eq_append_getElem hi, List.filter_append, List.length_append]
  cases h : (gt S now l[i]).isSome <;> simp [List.filter, h]
theorem exM_le (S : Sp) (now : Int) (l : List Bs) : exM S now l ≤ l.length := List.length_filter_le _ _
section
variable {F X : Nat → Prop} {b : Nat} {w : World} {S : Sp}
set_option maxHeartbeats 4000000 in
set_option maxRecDepth 100000 in
theorem exists_call (h : SP F X b w S) (now : Int) {G : Nat → Prop} {a : Option Addr} {n c : Nat} {l : List Base.El} (hl : SL G w (.slice a n c) l) (hll : l.length < 4611686018427387904) (hbl : ∀ x ∈ l, x.length ≤ 281474976710656) :
    Calls Tryz.prog 42 #[cV b now a n c] w fun e w' => e = .returned (rp 3 ⟨#[]⟩ (exM S now l : Int)) ∧ Dn F X b w w' S := by
  obtain ⟨rfl, hcs⟩ := sl_get hl
  obtain ⟨W, hW⟩ : ∃ W, W = (w.alloc (cO b now a l.length c)).alloc (rO 0 ⟨#[]⟩ 0 (.slice none 0 0)) := ⟨_, rfl⟩
  obtain ⟨bW, x0, x1, sW⟩ := two_boxes w (cO b now a l.length c) (rO 0 ⟨#[]⟩ 0 (.slice none 0 0)) ⟨_, _, rfl⟩
  rw [← hW] at bW x0 x1 sW
  have HH := hid_of h
  have HB := hid_of bW
  have HX0 := hid_of x0
  have HX1 := hid_of x1
  have HSW := hid_of sW
  have HW := hid_of hW
  have t0 : KCmd.Tmp w W w.heap.size := ⟨Nat.le_refl _, by rw [HSW.out]; omega⟩
  have t1 : KCmd.Tmp w W (w.heap.size + 1) := ⟨by omega, by rw [HSW.out]; omega⟩
  have HT := hid_of fun (V : World) (hV : Below W.heap.size W V) (a' : Option Addr) (n' : Nat) (i : Nat) (hi : i < l.length) => there_call ((sp_wide h bW).below hV) l[i] (hbl _ (List.getElem_mem hi)) now a' n' c
  have HCt := hid_of fun (V : World) (n : Int) => count_call n V
  have HCS : Hid (∀ i (hi : i < l.length), ∃ ga oa, a = some ⟨ga, oa, none⟩ ∧ ∀ V, Below W.heap.size W V → V.cell? ⟨ga, oa + i, none⟩ = some (.string (mk l[i]))) := hid_of fun i hi => by
    obtain ⟨ga, oa, e, hc⟩ := hcs i hi
    have hl1 := block_lt_of_cell hc
    exact ⟨ga, oa, e, fun V hV => (hV.cell (p := ⟨ga, oa + i, none⟩) (Nat.lt_of_lt_of_le hl1 bW.size)).trans ((bW.cell (p := ⟨ga, oa + i, none⟩) hl1).trans hc)⟩
  have HBx : Hid (∀ V, Below W.heap.size W V → V.cell? ⟨w.heap.size, 0, none⟩ = some (ptr b) ∧ V.cell? ⟨w.heap.size, 1, none⟩ = some (.int .i64 now) ∧ V.cell? ⟨w.heap.size, 2, none⟩ = some (.slice a l.length c)) := hid_of fun V hV => (box3 ((hV.block _ (lt_of HX0.out)).trans HX0.out)).1
  obtain ⟨c0, c1, c2⟩ := HBx.out W (Below.refl _ W)
  obtain ⟨N, HN⟩ : ∃ N, Hid (N = l.length) := ⟨_, hid_of rfl⟩
  have hNb : N < 4611686018427387904 := by rw [HN.out]; exact hll
  rw [← HN.out] at HW c2 HBx
  clear hW bW x0 x1 sW h hcs hl hll
  rw [← HN.out]
  go_enter Tryz.func42, Tryz.ntmps42
  go_wp2_with fail
  rw [← HW.out]
  go_wp2_with fail
  go_loopg [3, 9] N (fun gk s3 s9 wx => ∃ i : Nat, i + gk = N ∧ s9 = .int .i64 (i : Int) ∧ s3 = .int .i64 (exM S now (l.take i) : Int) ∧ Hid (Below W.heap.size W wx))
  case atStart => exact ⟨0, by omega, rfl, by simp [exM], hid_of (Below.refl _ W)⟩
  case round =>
    obtain ⟨i, hi, rfl, rfl, B⟩ := hrel
    clear c0 c1 c2
    obtain ⟨c0, c1, c2⟩ := HBx.out wr B.out
    by_cases hlt : i < N
    · have his : i < l.length := by rw [← HN.out]; exact hlt
      have d1 : (i : Int) < (N : Int) := by omega
      obtain ⟨ga, oa, rfl, hcw⟩ := HCS.out i his
      have cw := hcw wr B.out
      have H1 := hid_of (HT.out wr B.out (some ⟨ga, oa, none⟩) N i his)
      have hst := hid_of (exM_take S now l i his)
      have hle := exM_le S now (l.take i)
      rw [List.length_take] at hle
      have ew : IntKind.i64.wrap ((i : Int) + 1) = (i : Int) + 1 := IntWalk.i64_in _ (by omega)
      clear hcw
      generalize exM S now (l.take i) = m at *
      have ew2 : IntKind.i64.wrap ((m : Int) + 1) = (m : Int) + 1 := IntWalk.i64_in _ (by omega)
      generalize hq : (gt S now l[i]).isSome = q at *
      generalize mk l[i] = KK at *
      cases q
      · simp only [Bool.false_eq_true, if_false, Nat.add_zero] at hst
        have HST := hid_of hst
        clear hst hq
        go_wp2_with fail
        refine H1.out.mono ?_
        rintro e w2 ⟨rfl, b2⟩
        have B2 := hid_of (B.out.trans (b2.mono B.out.size))
        clear b2
        go_wp2_with fail
        go_roundg (gk - 1)
        case rel => exact ⟨i + 1, by omega, by rw [show ((i + 1 : Nat) : Int) = (i : Int) + 1 from by omega], by rw [HST.out], B2⟩
        case measure => omega
      · simp only [if_true] at hst
        have HST := hid_of hst
        clear hst hq
        go_wp2_with fail
        refine H1.out.mono ?_
        rintro e w2 ⟨rfl, b2⟩
        have B2 := hid_of (B.out.trans (b2.mono B.out.size))
        clear b2
        go_wp2_with fail
        go_roundg (gk - 1)
        case rel => exact ⟨i + 1, by omega, by rw [show ((i + 1 : Nat) : Int) = (i : Int) + 1 from by omega], by rw [HST.out, show ((m + 1 : Nat) : Int) = (m : Int) + 1 from by omega], B2⟩
        case measure => omega
    · have d1 : ¬ (i : Int) < (N : Int) := by omega
      have hta : Hid (exM S now (l.take i) = exM S now l) := hid_of (by rw [List.take_of_length_le (by have := HN.out; omega)])
      generalize exM S now (l.take i) = m at *
      go_wp2_with fail
      refine (HCt.out _ _).mono ?_
      rintro e w2 ⟨rfl, b2⟩
      have D2 := Dn.of (sp_wide HH.out HB.out) (B.out.trans (b2.mono B.out.size))
      have z2 := (dn_block HH.out HB.out D2 t1).trans HX1.out
      have hz := fin4_at z2 (.int .i64 3) (.string ⟨#[]⟩) (.int .i64 (m : Int)) (.slice none 0 0)
      have hdn := dn_tmp HH.out HB.out D2 (ev_fin4 t1 (.int .i64 3) (.string ⟨#[]⟩) (.int .i64 (m : Int)) (.slice none 0 0))
      unfold fin4 at hz hdn
      obtain ⟨⟨v0, v1, v2, v3⟩, fv⟩ := box4 z2
      have fv0 := fv 0
      have fv1 := fv 1
      have fv2 := fv 2
      have fv3 := fv 3
      clear fv z2
      go_wp2_with fail
      obtain ⟨⟨g0, g1, g2, g3⟩, -⟩ := box4 hz
      exact bodyPost_ret (v := (rp 3 ⟨#[]⟩ (m : Int))) (by simp [results, Tryz.results42, go_sem, g0, g1, g2, g3]) rfl ⟨by rw [← hta.out], hdn⟩
set_option maxHeartbeats 4000000 in
set_option maxRecDepth 100000 in
theorem ping_call (h : SP F X b w S) (now : Int) (a : Option Addr) (c : Nat) :
    Calls Tryz.prog 52 #[cV b now a 0 c] w fun e w' => e = .returned (rp 1 pongB 0) ∧ Dn F X b w w' S := by
  have hl : SL (fun _ => True) w (.slice a 0 c) ([] : List Base.El) → True := fun _ => trivial
  obtain ⟨W, hW⟩ : ∃ W, W = (w.alloc (cO b now a 0 c)).alloc (rO 0 ⟨#[]⟩ 0 (.slice none 0 0)) := ⟨_, rfl⟩
  obtain ⟨bW, x0, x1, sW⟩ := two_boxes w (cO b now a 0 c) (rO 0 ⟨#[]⟩ 0 (.slice none 0 0)) ⟨_, _, rfl⟩
  rw [← hW] at bW x0 x1 sW
  have HH := hid_of h
  have HB := hid_of bW
  have HX0 := hid_of x0
  have HX1 := hid_of x1
  have HSW := hid_of sW
  have HW := hid_of hW
  have t0 : KCmd.Tmp w W w.heap.size := ⟨Nat.le_refl _, by rw [HSW.out]; omega⟩
  have t1 : KCmd.Tmp w W (w.heap.size + 1) := ⟨by omega, by rw [HSW.out]; omega⟩
  have H1 := hid_of fun (V : World) => simple_call pongB V
  obtain ⟨⟨c0, c1, c2⟩, -⟩ := box3 x0
  clear hW bW x0 x1 sW h hl
  go_enter Tryz.func52, Tryz.ntmps52
  go_wp2_with fail
  rw [← HW.out]
  go_wp2_with fail
  refine (H1.out _).mono ?_
  rintro e w2 ⟨rfl, b2⟩
  have D2 := Dn.of (sp_wide HH.out HB.out) b2
  have z2 := (dn_block HH.out HB.out D2 t1).trans HX1.out
  have hz := fin4_at z2 (.int .i64 1) (.string pongB) (.int .i64 0) (.slice none 0 0)
  have hdn := dn_tmp HH.out HB.out D2 (ev_fin4 t1 (.int .i64 1) (.string pongB) (.int .i64 0) (.slice none 0 0))
  unfold fin4 at hz hdn
  obtain ⟨⟨v0, v1, v2, v3⟩, fv⟩ := box4 z2
  have fv0 := fv 0
  have fv1 := fv 1
  have fv2 := fv 2
  have fv3 := fv 3
  clear fv z2
  go_wp2_with fail
  obtain ⟨⟨g0, g1, g2, g3⟩, -⟩ := box4 hz
  exact bodyPost_ret (v := (rp 1 pongB 0)) (by simp [results, Tryz.results52, go_sem, g0, g1, g2, g3]) rfl ⟨rfl, hdn⟩
end
end Go.Proofs.YtminfpkigenahaaGreatDoor.KEx
end
