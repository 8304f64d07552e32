/- Commands on hashes: what their small calls answer; boxes beside a space. The commands' map: names and functions. The tables: the program's seven, the document's one, and that they say the same. -/
import Derived.Test.YtcgdnpcegcmboaaGreatDoorSPutM
import Derived.Test.YtcgdnpcegcmboaaGreatDoorTextMathM
import Derived.Deep.RegionHeld3
import Derived.Carry
import Derived.Test.YtcgdnpcegcmboaaGreatDoorProg
section
namespace Go.Proofs.YtcgdnpcegcmboaaGreatDoor.HCmd
open Go.RowKit Go.Maps
open Go.Proofs.YtcgdnpcegcmboaaGreatDoor.SpaceMath (wout withL lkp keys Ris toD)
open Go.Proofs.YtcgdnpcegcmboaaGreatDoor.ValueMath (Vl chk small)
open Go.Proofs.YtcgdnpcegcmboaaGreatDoor.Base (mk mk_list mk_size Gr hid_of SL)
open Go.Proofs.YtcgdnpcegcmboaaGreatDoor.Turn
open Go.Proofs.YtcgdnpcegcmboaaGreatDoor.Vals
open Go.Proofs.YtcgdnpcegcmboaaGreatDoor.Check0 (Wel)
open Go.Proofs.YtcgdnpcegcmboaaGreatDoor.SBase
open Go.Proofs.YtcgdnpcegcmboaaGreatDoor.SFind
open Go.Proofs.YtcgdnpcegcmboaaGreatDoor.SSet (box8)
open Go.Proofs.YtcgdnpcegcmboaaGreatDoor.SPut (vO)
open Go.Proofs.YtcgdnpcegcmboaaGreatDoor.QBase
open Go.Proofs.YtcgdnpcegcmboaaGreatDoor.Parse (Has)
open Go.Proofs.YtcgdnpcegcmboaaGreatDoor.TextMath
open Go.Lib (decDigits itoa)
set_option linter.unusedVariables false
set_option linter.unusedSimpArgs false
abbrev numB : ByteArray := ⟨#[69, 82, 82, 32, 97, 32, 110, 117, 109, 98, 101, 114, 32, 105, 115, 32, 119, 97, 110, 116, 101, 100]⟩
abbrev okB : ByteArray := ⟨#[79, 75]⟩
abbrev synB : ByteArray := ⟨#[69, 82, 82, 32, 115, 121, 110, 116, 97, 120]⟩
abbrev nokB : ByteArray := ⟨#[69, 82, 82, 32, 110, 111, 32, 115, 117, 99, 104, 32, 107, 101, 121]⟩
abbrev dlB : ByteArray := ⟨#[69, 82, 82, 32, 116, 104, 101, 32, 100, 101, 97, 100, 108, 105, 110, 101, 32, 109, 97, 121, 32, 110, 111, 116, 32, 98, 101]⟩
abbrev curB : ByteArray := ⟨#[69, 82, 82, 32, 116, 104, 101, 32, 99, 117, 114, 115, 111, 114, 32, 109, 97, 121, 32, 110, 111, 116, 32, 98, 101]⟩
abbrev busyB : ByteArray := ⟨#[66, 85, 83, 89, 75, 69, 89, 32, 116, 104, 101, 32, 107, 101, 121, 32, 105, 115, 32, 116, 104, 101, 114, 101]⟩
abbrev bytB : ByteArray := ⟨#[69, 82, 82, 32, 116, 104, 101, 32, 98, 121, 116, 101, 115, 32, 97, 114, 101, 32, 110, 111, 32, 118, 97, 108, 117, 101, 39, 115]⟩
abbrev arB : ByteArray := ⟨#[69, 82, 82, 32, 119, 114, 111, 110, 103, 32, 110, 117, 109, 98, 101, 114, 32, 111, 102, 32, 97, 114, 103, 117, 109, 101, 110, 116, 115, 58, 32, 112, 105, 110, 103]⟩
abbrev pongB : ByteArray := ⟨#[80, 79, 78, 71]⟩
abbrev rp (k : Int) (T : ByteArray) (n : Int) : Value := .agg #[.int .i64 k, .string T, .int .i64 n, .slice none 0 0]
abbrev rO (k : Int) (T : ByteArray) (n : Int) (L : Value) : Obj := .cells #[.int .i64 k, .string T, .int .i64 n, L] 25
theorem box4 {w : World} {b : Nat} {x0 x1 x2 x3 : Value} {t : TypeId} (h : w.heap[b]? = some (.cells #[x0, x1, x2, x3] t (0, 0))) :
    (w.cell? ⟨b, 0, none⟩ = some x0 ∧ w.cell? ⟨b, 1, none⟩ = some x1 ∧ w.cell? ⟨b, 2, none⟩ = some x2 ∧ w.cell? ⟨b, 3, none⟩ = some x3) ∧ ∀ i, w.frozen? ⟨b, i, none⟩ = false :=
  ⟨⟨Lib.cell_of_heap h 0, Lib.cell_of_heap h 1, Lib.cell_of_heap h 2, Lib.cell_of_heap h 3⟩, fun i => Lib.frozen_of_heap h i⟩
def fin4 (w : World) (q : Nat) (y0 y1 y2 y3 : Value) : World := (((w.setCell ⟨q, 0, none⟩ y0).setCell ⟨q, 1, none⟩ y1).setCell ⟨q, 2, none⟩ y2).setCell ⟨q, 3, none⟩ y3
theorem fin4_at {w : World} {q : Nat} {x0 x1 x2 x3 : Value} {t : TypeId} (h : w.heap[q]? = some (.cells #[x0, x1, x2, x3] t (0, 0))) (y0 y1 y2 y3 : Value) : (fin4 w q y0 y1 y2 y3).heap[q]? = some (.cells #[y0, y1, y2, y3] t (0, 0)) := by
  unfold fin4
  simpa using set_at (i := 3) (set_at (i := 2) (set_at (i := 1) (set_at (i := 0) h y0) y1) y2) y3
theorem fin4_b {B q : Nat} {w0 w : World} {y0 y1 y2 y3 : Value} (h : Below B w0 w) (hq : B ≤ q) : Below B w0 (fin4 w q y0 y1 y2 y3) := bset (bset (bset (bset h hq y0) hq y1) hq y2) hq y3
set_option maxRecDepth 100000 in
theorem refused_call (T : ByteArray) (w : World) : Calls Tryz.prog 100 #[.string T] w fun e w' => e = .returned (rp 2 T 0) ∧ Below w.heap.size w w' := by
  go_enter Tryz.func100, Tryz.ntmps100
  go_wp2_with fail
  exact bodyPost_ret (v := rp 2 T 0) (by simp [results, Tryz.results100, go_sem]) rfl ⟨rfl, alb _ _⟩
set_option maxRecDepth 100000 in
theorem count_call (n : Int) (w : World) : Calls Tryz.prog 89 #[.int .i64 n] w fun e w' => e = .returned (rp 3 ⟨#[]⟩ n) ∧ Below w.heap.size w w' := by
  go_enter Tryz.func89, Tryz.ntmps89
  go_wp2_with fail
  exact bodyPost_ret (v := rp 3 ⟨#[]⟩ n) (by simp [results, Tryz.results89, go_sem]) rfl ⟨rfl, alb _ _⟩
set_option maxRecDepth 100000 in
theorem bulk_call (T : ByteArray) (w : World) : Calls Tryz.prog 97 #[.string T] w fun e w' => e = .returned (rp 4 T 0) ∧ Below w.heap.size w w' := by
  go_enter Tryz.func97, Tryz.ntmps97
  go_wp2_with fail
  exact bodyPost_ret (v := rp 4 T 0) (by simp [results, Tryz.results97, go_sem]) rfl ⟨rfl, alb _ _⟩
set_option maxRecDepth 100000 in
theorem null_call  (w : World) : Calls Tryz.prog 134 #[] w fun e w' => e = .returned (rp 5 ⟨#[]⟩ 0) ∧ Below w.heap.size w w' := by
  go_enter Tryz.func134, Tryz.ntmps134
  go_wp2_with fail
  exact bodyPost_ret (v := rp 5 ⟨#[]⟩ 0) (by simp [results, Tryz.results134, go_sem]) rfl ⟨rfl, alb _ _⟩
abbrev cV (b : Nat) (now : Int) (K : ByteArray) (a : Option Addr) (n c : Nat) : Value := .agg #[ptr b, .int .i64 now, .string K, .slice a n c]
abbrev cO (b : Nat) (now : Int) (K : ByteArray) (a : Option Addr) (n c : Nat) : Obj := .cells #[ptr b, .int .i64 now, .string K, .slice a n c] 73
/- two boxes laid one behind the other -/
theorem two_boxes (w : World) (o1 o2 : Obj) (h1 : ∃ cs t, o1 = .cells cs t (0, 0)) : Below w.heap.size w ((w.alloc o1).alloc o2) ∧ ((w.alloc o1).alloc o2).heap[w.heap.size]? = some o1 ∧ ((w.alloc o1).alloc o2).heap[w.heap.size + 1]? = some o2 ∧ ((w.alloc o1).alloc o2).heap.size = w.heap.size + 2 := by
  refine ⟨FRow.bel (alb _ _) (alb _ _) (Nat.le_refl _), ?_, ?_, by simp⟩
  · rw [Below.heap_alloc _ _ _ (by simp)]
    exact heap_alloc_new w _
  · have := heap_alloc_new (w.alloc o1) o2
    simpa using this
theorem vn_form {B : Nat} {w : World} {v : Value} {x : Vl} (h : VN B w v x) : ∃ a n c a' n' c' a'' n'' c'', v = .agg #[.int .i64 x.kind, .string (mk x.text), .slice a n c, .slice a' n' c', .slice a'' n'' c''] := by
  obtain ⟨a, b, c, rfl, h1, h2, h3⟩ := h
  obtain ⟨a1, c1, rfl, _⟩ := h1.shape
  obtain ⟨a2, c2, rfl⟩ := shapeFRow h2
  obtain ⟨a3, c3, rfl⟩ := shapeERow h3
  exact ⟨_, _, _, _, _, _, _, _, _, rfl⟩
/- boxes of a call's own beside a space -/
abbrev Tmp (w W : World) (k : Nat) : Prop := w.heap.size ≤ k ∧ k < W.heap.size
section
variable {F X : Nat → Prop} {b : Nat} {w W w1 w2 : World} {S S' : Sp}
theorem sp_wide (h : SP F X b w S) (hb : Below w.heap.size w W) : SP F (fun k => X k ∨ Tmp w W k) b W S :=
  h.re (fun k q => hb.block k (h.lo k q)) (Ev.of_below hb) (fun k hk q => q.elim id (fun q => by unfold Tmp at q; omega)) (fun k q => .inl (h.fx k q)) (fun k q => q.elim (fun q => Nat.lt_of_lt_of_le (h.xl k q) hb.size) (fun q => q.2))
theorem dn_tmp (h0 : SP F X b w S) (hb : Below w.heap.size w W) (h : Dn F (fun k => X k ∨ Tmp w W k) b W w1 S') (e : Ev (Tmp w W) w1 w2) : Dn F X b w w2 S' := by
  obtain ⟨F', s, ev, n⟩ := h
  have nt : ∀ k, F' k → ¬ Tmp w W k := fun k q t => by
    unfold Tmp at t
    rcases n k q with q | q
    · have := h0.lo k q; omega
    · omega
  have eW : Ev F w W := Ev.of_below hb
  refine ⟨F', s.re (fun k q => e.block k (s.lo k q) (nt k q)) (e.mono fun k _ q => .inl (.inr q)) (fun k _ q => q.elim (fun q => .inl (.inl q)) .inr) (fun k q => .inr q) (fun k q => q.elim (fun q => Nat.lt_of_lt_of_le (s.xl k (.inl (.inl q))) e.size) (fun q => Nat.lt_of_lt_of_le (s.lo k q) e.size)), ?_, fun k q => (n k q).imp id (fun q => Nat.le_trans hb.size q)⟩
  have e1 : Ev F w w1 := eW.trans ev
  refine ⟨e.os.trans e1.os, e.tape.trans e1.tape, e.output.trans e1.output, Nat.le_trans e1.size e.size, fun k hk hn => (e.block k (Nat.lt_of_lt_of_le hk e1.size) (fun t => by unfold Tmp at t; omega)).trans (e1.block k hk hn)⟩
/-- what stands beside -/
theorem dn_block {Y : Nat → Prop} (h0 : SP F Y b w S) (hb : Below w.heap.size w W) (h : Dn F X b W w1 S') {k : Nat} (hk : Tmp w W k) : w1.heap[k]? = W.heap[k]? := by
  obtain ⟨F', s, ev, n⟩ := h
  exact ev.block k hk.2 (fun q => by have := h0.lo k q; unfold Tmp at hk; omega)
theorem dn_size (h : Dn F X b W w1 S') : W.heap.size ≤ w1.heap.size := by
  obtain ⟨F', s, ev, n⟩ := h
  exact ev.size
end
/-- a space that a step more may be done on -/
structure Room (S : Sp) : Prop where
  m : S.mrk = none
  c : S.cnt + 1 < 18446744073709551616
  n : S.l.length + 1 < 1099511627776
theorem three_boxes (w : World) (o1 o2 o3 : Obj) : Below w.heap.size w (((w.alloc o1).alloc o2).alloc o3) ∧ (((w.alloc o1).alloc o2).alloc o3).heap[w.heap.size]? = some o1 ∧ (((w.alloc o1).alloc o2).alloc o3).heap[w.heap.size + 1]? = some o2 ∧ (((w.alloc o1).alloc o2).alloc o3).heap[w.heap.size + 2]? = some o3 ∧ (((w.alloc o1).alloc o2).alloc o3).heap.size = w.heap.size + 3 := by
  refine ⟨FRow.bel (FRow.bel (alb _ _) (alb _ _) (Nat.le_refl _)) (alb _ _) (Nat.le_refl _), ?_, ?_, ?_, by simp⟩
  · rw [Below.heap_alloc _ _ _ (by simp; omega), Below.heap_alloc _ _ _ (by simp)]
    exact heap_alloc_new w _
  · rw [Below.heap_alloc _ _ _ (by simp)]
    have := heap_alloc_new (w.alloc o1) o2
    simpa using this
  · have := heap_alloc_new ((w.alloc o1).alloc o2) o3
    simpa using this
theorem ev_fin4 {w W w1 : World} {q : Nat} (hq : Tmp w W q) (y0 y1 y2 y3 : Value) : Ev (Tmp w W) w1 (fin4 w1 q y0 y1 y2 y3) := by
  unfold fin4
  exact (((Ev.set (M := Tmp w W) hq y0).trans (Ev.set (M := Tmp w W) hq y1)).trans (Ev.set (M := Tmp w W) hq y2)).trans (Ev.set (M := Tmp w W) hq y3)
theorem fin4_ne {w : World} {q k : Nat} (h : k ≠ q) {y0 y1 y2 y3 : Value} : (fin4 w q y0 y1 y2 y3).heap[k]? = w.heap[k]? := by
  unfold fin4
  rw [set_ne h, set_ne h, set_ne h, set_ne h]
theorem sl_get {G : Nat → Prop} {w : World} {a : Option Addr} {n c : Nat} {l : List Base.El} (h : SL G w (.slice a n c) l) : n = l.length ∧ ∀ i (hi : i < l.length), ∃ ga oa, a = some ⟨ga, oa, none⟩ ∧ w.cell? ⟨ga, oa + i, none⟩ = some (.string (mk l[i])) := by
  obtain ⟨a0, c0, e, hc, hr⟩ := h
  injection e with e1 e2 e3
  subst e1 e2 e3
  refine ⟨rfl, fun i hi => ?_⟩
  obtain ⟨g, o, eg, hG, hcs⟩ := Base.Rd.get hr (by omega)
  exact ⟨g, o, eg, hcs i l[i] (List.getElem?_eq_getElem hi)⟩
set_option maxRecDepth 100000 in
theorem ok_call (w : World) : Calls Tryz.prog 110 #[] w fun e w' => e = .returned (rp 1 okB 0) ∧ Below w.heap.size w w' := by
  go_enter Tryz.func110, Tryz.ntmps110
  go_wp2_with fail
  exact bodyPost_ret (v := rp 1 okB 0) (by simp [results, Tryz.results110, go_sem]) rfl ⟨rfl, alb _ _⟩
set_option maxRecDepth 100000 in
theorem array_call (a : Option Addr) (n c : Nat) (w : World) : Calls Tryz.prog 98 #[.slice a n c] w fun e w' => e = .returned (.agg #[.int .i64 6, .string ⟨#[]⟩, .int .i64 0, .slice a n c]) ∧ Below w.heap.size w w' := by
  go_enter Tryz.func98, Tryz.ntmps98
  go_wp2_with fail
  exact bodyPost_ret (v := .agg #[.int .i64 6, .string ⟨#[]⟩, .int .i64 0, .slice a n c]) (by simp [results, Tryz.results98, go_sem]) rfl ⟨rfl, alb _ _⟩
/-- the number that a text is -/
def prs (l : Bs) : Option Int := match Lib.atoiAll l with
  | .ok v => if itoa v = l then some v else none
  | _ => none
theorem prs_some {l : Bs} {v : Int} (h : prs l = some v) : textB v l = true := by
  unfold prs at h
  split at h
  · rename_i u hu
    split at h
    · rename_i hi
      cases h
      exact (text_iff _ _).2 ⟨Lib.atoiAll_bounds hu, hi⟩
    · cases h
  · cases h
theorem prs_none {l : Bs} (h : prs l = none) : ∀ v, textB v l = false := fun v => by
  cases q : textB v l with
  | false => rfl
  | true =>
    exfalso
    have q' := (text_iff _ _).1 q
    have := atoi_itoa v q'.1
    rw [q'.2] at this
    unfold prs at h
    rw [this] at h
    simp [q'.2] at h
theorem prs_itoa {v : Int} (h : InI v) : prs (itoa v) = some v := by
  unfold prs
  rw [atoi_itoa v h]
  simp
theorem isE (T : ByteArray) (l : Bs) (h : T.data.toList = l) : T.toList.isEmpty = l.isEmpty := by
  rw [show T = mk l from by rw [← h]; rfl, mk_list]
set_option maxHeartbeats 1000000 in
set_option maxRecDepth 100000 in
theorem number_call (T : ByteArray) (hT : T.size ≤ 140737488351232) (w : World) (hh : Has w) :
    Calls Tryz.prog 99 #[.string T] w fun e w' => e = .returned (.tuple #[.int .i64 ((prs T.data.toList).getD 0), .string (if (prs T.data.toList).isSome then ⟨#[]⟩ else numB)]) ∧ Below w.heap.size w w' := by
  cases hp : prs T.data.toList with
  | some v =>
    have H := hid_of (Parse.parse_any T w v 0 hT (.inl ⟨prs_some hp, rfl⟩) hh)
    clear hT hh hp
    show Calls Tryz.prog 99 #[.string T] w fun e w' => e = .returned (.tuple #[.int .i64 v, .string ⟨#[]⟩]) ∧ Below w.heap.size w w'
    go_enter Tryz.func99, Tryz.ntmps99
    go_wp2_with fail
    refine H.out.mono ?_
    rintro e w1 ⟨rfl, b1⟩
    have B := hid_of b1
    clear b1
    go_wp2_with fail
    go_ret2
    exact ⟨rfl, B.out⟩
  | none =>
    have H := hid_of (Parse.parse_any T w 0 10 hT (.inr ⟨prs_none hp, rfl, rfl⟩) hh)
    clear hT hh hp
    show Calls Tryz.prog 99 #[.string T] w fun e w' => e = .returned (.tuple #[.int .i64 0, .string numB]) ∧ Below w.heap.size w w'
    go_enter Tryz.func99, Tryz.ntmps99
    go_wp2_with fail
    refine H.out.mono ?_
    rintro e w1 ⟨rfl, b1⟩
    have B := hid_of b1
    clear b1
    go_wp2_with fail
    go_ret2
    exact ⟨rfl, B.out⟩
end Go.Proofs.YtcgdnpcegcmboaaGreatDoor.HCmd
end
section
namespace Go.Proofs.YtcgdnpcegcmboaaGreatDoor.HMap
open Go.RowKit Go.Maps
open Go.Proofs.YtcgdnpcegcmboaaGreatDoor.SpaceMath
open Go.Proofs.YtcgdnpcegcmboaaGreatDoor.Base (mk mk_list mk_size Gr hid_of SL)
open Go.Proofs.YtcgdnpcegcmboaaGreatDoor.Turn
open Go.Proofs.YtcgdnpcegcmboaaGreatDoor.Vals
open Go.Proofs.YtcgdnpcegcmboaaGreatDoor.SBase (KL RH RH_inv)
open Go.Proofs.YtcgdnpcegcmboaaGreatDoor.SFind (alb)
open Go.Proofs.YtcgdnpcegcmboaaGreatDoor.Swap (law9 key9)
open Go.Proofs.YtcgdnpcegcmboaaGreatDoor.SSet (owns_norm)
set_option linter.unusedVariables false
set_option linter.unusedSimpArgs false
abbrev mO : Obj := .map #[] 0
abbrev fnV (f : FuncId) : Value := .func (.func f) #[] #[]
theorem step {w W : World} {L : KL Value} (own : W.ownsMap Tryz.prog 9 RH w.heap.size L.length (toD L)) (ev : Ev (fun k => k = w.heap.size) (w.alloc mO) W) (hL : L.length < 1000) (k : SetMath.Bs) (hk : k.length ≤ 281474976710656) (v : Value) :
    ∃ W', (Instr.mapUpdate 70 (.map (some w.heap.size)) (.string (mk k)) v).run Tryz.prog W = .ok () W' ∧ W'.ownsMap Tryz.prog 9 RH w.heap.size (withL L k v).length (toD (withL L k v)) ∧ Ev (fun k => k = w.heap.size) (w.alloc mO) W' := by
  obtain ⟨W', h1, h2, h3⟩ := own.store law9 Tryz.underlying70 (by unfold maxLen; omega) (key9 k hk) (show RH v = some (.held v, []) from rfl)
  rw [put_D] at h2
  exact ⟨W', h1, owns_norm h2, ev.trans (Ev.turned h3 rfl)⟩
def cmdL : KL Value := [([104, 100, 101, 108], fnV 55), ([104, 101, 120, 105, 115, 116, 115], fnV 56), ([104, 103, 101, 116], fnV 57), ([104, 103, 101, 116, 97, 108, 108], fnV 58), ([104, 105, 110, 99, 114, 98, 121], fnV 59), ([104, 107, 101, 121, 115], fnV 60), ([104, 108, 101, 110], fnV 61), ([104, 109, 103, 101, 116], fnV 62), ([104, 109, 115, 101, 116], fnV 63), ([104, 115, 99, 97, 110], fnV 64), ([104, 115, 101, 116], fnV 65), ([104, 115, 101, 116, 110, 120], fnV 66), ([104, 115, 116, 114, 108, 101, 110], fnV 67), ([104, 118, 97, 108, 115], fnV 68)]
theorem cmd_take (i : Nat) : (cmdL.take i).length < 1000 := by
  rw [List.length_take]
  exact Nat.lt_of_le_of_lt (Nat.min_le_right _ _) (by decide)
theorem put0 : withL (cmdL.take 0) [104, 100, 101, 108] (fnV 55) = cmdL.take 1 := by kernel_rfl
theorem put1 : withL (cmdL.take 1) [104, 101, 120, 105, 115, 116, 115] (fnV 56) = cmdL.take 2 := by kernel_rfl
theorem put2 : withL (cmdL.take 2) [104, 103, 101, 116] (fnV 57) = cmdL.take 3 := by kernel_rfl
theorem put3 : withL (cmdL.take 3) [104, 103, 101, 116, 97, 108, 108] (fnV 58) = cmdL.take 4 := by kernel_rfl
theorem put4 : withL (cmdL.take 4) [104, 105, 110, 99, 114, 98, 121] (fnV 59) = cmdL.take 5 := by kernel_rfl
theorem put5 : withL (cmdL.take 5) [104, 107, 101, 121, 115] (fnV 60) = cmdL.take 6 := by kernel_rfl
theorem put6 : withL (cmdL.take 6) [104, 108, 101, 110] (fnV 61) = cmdL.take 7 := by kernel_rfl
theorem put7 : withL (cmdL.take 7) [104, 109, 103, 101, 116] (fnV 62) = cmdL.take 8 := by kernel_rfl
theorem put8 : withL (cmdL.take 8) [104, 109, 115, 101, 116] (fnV 63) = cmdL.take 9 := by kernel_rfl
theorem put9 : withL (cmdL.take 9) [104, 115, 99, 97, 110] (fnV 64) = cmdL.take 10 := by kernel_rfl
theorem put10 : withL (cmdL.take 10) [104, 115, 101, 116] (fnV 65) = cmdL.take 11 := by kernel_rfl
theorem put11 : withL (cmdL.take 11) [104, 115, 101, 116, 110, 120] (fnV 66) = cmdL.take 12 := by kernel_rfl
theorem put12 : withL (cmdL.take 12) [104, 115, 116, 114, 108, 101, 110] (fnV 67) = cmdL.take 13 := by kernel_rfl
theorem put13 : withL (cmdL.take 13) [104, 118, 97, 108, 115] (fnV 68) = cmdL.take 14 := by kernel_rfl
set_option maxHeartbeats 4000000 in
set_option maxRecDepth 100000 in
theorem commands_call (w : World) : Calls Tryz.prog 32 #[] w fun e w' => e = .returned (.map (some w.heap.size)) ∧ w'.ownsMap Tryz.prog 9 RH w.heap.size cmdL.length (toD cmdL) ∧ Below w.heap.size w w' := by
  have o0 : (w.alloc mO).ownsMap Tryz.prog 9 RH w.heap.size (cmdL.take 0).length (toD (cmdL.take 0)) := World.ownsMap_made (H := Value) w Tryz.prog 9 RH
  have e0 := Ev.refl (fun k => k = w.heap.size) (w.alloc mO)
  obtain ⟨W1, r1, o1, e1⟩ := step o0 e0 (cmd_take 0) [104, 100, 101, 108] (by decide) (fnV 55)
  rw [put0] at o1
  have r1 : (Instr.mapUpdate 70 (.map (some w.heap.size)) (.string ⟨#[104, 100, 101, 108]⟩) (.func (.func 55) #[] #[])).run Tryz.prog (w.alloc mO) = .ok () W1 := r1
  obtain ⟨W2, r2, o2, e2⟩ := step o1 e1 (cmd_take 1) [104, 101, 120, 105, 115, 116, 115] (by decide) (fnV 56)
  rw [put1] at o2
  have r2 : (Instr.mapUpdate 70 (.map (some w.heap.size)) (.string ⟨#[104, 101, 120, 105, 115, 116, 115]⟩) (.func (.func 56) #[] #[])).run Tryz.prog W1 = .ok () W2 := r2
  obtain ⟨W3, r3, o3, e3⟩ := step o2 e2 (cmd_take 2) [104, 103, 101, 116] (by decide) (fnV 57)
  rw [put2] at o3
  have r3 : (Instr.mapUpdate 70 (.map (some w.heap.size)) (.string ⟨#[104, 103, 101, 116]⟩) (.func (.func 57) #[] #[])).run Tryz.prog W2 = .ok () W3 := r3
  obtain ⟨W4, r4, o4, e4⟩ := step o3 e3 (cmd_take 3) [104, 103, 101, 116, 97, 108, 108] (by decide) (fnV 58)
  rw [put3] at o4
  have r4 : (Instr.mapUpdate 70 (.map (some w.heap.size)) (.string ⟨#[104, 103, 101, 116, 97, 108, 108]⟩) (.func (.func 58) #[] #[])).run Tryz.prog W3 = .ok () W4 := r4
  obtain ⟨W5, r5, o5, e5⟩ := step o4 e4 (cmd_take 4) [104, 105, 110, 99, 114, 98, 121] (by decide) (fnV 59)
  rw [put4] at o5
  have r5 : (Instr.mapUpdate 70 (.map (some w.heap.size)) (.string ⟨#[104, 105, 110, 99, 114, 98, 121]⟩) (.func (.func 59) #[] #[])).run Tryz.prog W4 = .ok () W5 := r5
  obtain ⟨W6, r6, o6, e6⟩ := step o5 e5 (cmd_take 5) [104, 107, 101, 121, 115] (by decide) (fnV 60)
  rw [put5] at o6
  have r6 : (Instr.mapUpdate 70 (.map (some w.heap.size)) (.string ⟨#[104, 107, 101, 121, 115]⟩) (.func (.func 60) #[] #[])).run Tryz.prog W5 = .ok () W6 := r6
  obtain ⟨W7, r7, o7, e7⟩ := step o6 e6 (cmd_take 6) [104, 108, 101, 110] (by decide) (fnV 61)
  rw [put6] at o7
  have r7 : (Instr.mapUpdate 70 (.map (some w.heap.size)) (.string ⟨#[104, 108, 101, 110]⟩) (.func (.func 61) #[] #[])).run Tryz.prog W6 = .ok () W7 := r7
  obtain ⟨W8, r8, o8, e8⟩ := step o7 e7 (cmd_take 7) [104, 109, 103, 101, 116] (by decide) (fnV 62)
  rw [put7] at o8
  have r8 : (Instr.mapUpdate 70 (.map (some w.heap.size)) (.string ⟨#[104, 109, 103, 101, 116]⟩) (.func (.func 62) #[] #[])).run Tryz.prog W7 = .ok () W8 := r8
  obtain ⟨W9, r9, o9, e9⟩ := step o8 e8 (cmd_take 8) [104, 109, 115, 101, 116] (by decide) (fnV 63)
  rw [put8] at o9
  have r9 : (Instr.mapUpdate 70 (.map (some w.heap.size)) (.string ⟨#[104, 109, 115, 101, 116]⟩) (.func (.func 63) #[] #[])).run Tryz.prog W8 = .ok () W9 := r9
  obtain ⟨W10, r10, o10, e10⟩ := step o9 e9 (cmd_take 9) [104, 115, 99, 97, 110] (by decide) (fnV 64)
  rw [put9] at o10
  have r10 : (Instr.mapUpdate 70 (.map (some w.heap.size)) (.string ⟨#[104, 115, 99, 97, 110]⟩) (.func (.func 64) #[] #[])).run Tryz.prog W9 = .ok () W10 := r10
  obtain ⟨W11, r11, o11, e11⟩ := step o10 e10 (cmd_take 10) [104, 115, 101, 116] (by decide) (fnV 65)
  rw [put10] at o11
  have r11 : (Instr.mapUpdate 70 (.map (some w.heap.size)) (.string ⟨#[104, 115, 101, 116]⟩) (.func (.func 65) #[] #[])).run Tryz.prog W10 = .ok () W11 := r11
  obtain ⟨W12, r12, o12, e12⟩ := step o11 e11 (cmd_take 11) [104, 115, 101, 116, 110, 120] (by decide) (fnV 66)
  rw [put11] at o12
  have r12 : (Instr.mapUpdate 70 (.map (some w.heap.size)) (.string ⟨#[104, 115, 101, 116, 110, 120]⟩) (.func (.func 66) #[] #[])).run Tryz.prog W11 = .ok () W12 := r12
  obtain ⟨W13, r13, o13, e13⟩ := step o12 e12 (cmd_take 12) [104, 115, 116, 114, 108, 101, 110] (by decide) (fnV 67)
  rw [put12] at o13
  have r13 : (Instr.mapUpdate 70 (.map (some w.heap.size)) (.string ⟨#[104, 115, 116, 114, 108, 101, 110]⟩) (.func (.func 67) #[] #[])).run Tryz.prog W12 = .ok () W13 := r13
  obtain ⟨W14, r14, o14, e14⟩ := step o13 e13 (cmd_take 13) [104, 118, 97, 108, 115] (by decide) (fnV 68)
  rw [put13] at o14
  have r14 : (Instr.mapUpdate 70 (.map (some w.heap.size)) (.string ⟨#[104, 118, 97, 108, 115]⟩) (.func (.func 68) #[] #[])).run Tryz.prog W13 = .ok () W14 := r14
  have hfin : Below w.heap.size w W14 := (alb w mO).trans (e14.below (base := w.heap.size) (by simp) (fun k hk => by have hk : k = w.heap.size := hk; omega))
  have HF := hid_of hfin
  have HO := hid_of o14
  clear hfin o0 o1 o2 o3 o4 o5 o6 o7 o8 o9 o10 o11 o12 o13 o14 e0 e1 e2 e3 e4 e5 e6 e7 e8 e9 e10 e11 e12 e13 e14
  have hmm := @run_makeMap Tryz.prog
  go_enter Tryz.func32, Tryz.ntmps32
  go_wp2_with fail
  go_ret
  exact ⟨rfl, HO.out, HF.out⟩
end Go.Proofs.YtcgdnpcegcmboaaGreatDoor.HMap
end
section
namespace Go.Proofs.YtcgdnpcegcmboaaGreatDoor.Tab
open Go
set_option linter.unusedVariables false
set_option linter.unusedSimpArgs false
abbrev Bs := List UInt8
/- a row of the program: name, arity, part, first, last, step -/
structure Rw where
  name : Bs
  arity : Int
  part : Int
  first : Int
  last : Int
  step : Int
  deriving DecidableEq
/- a row as it is told -/
structure Sc where
  name : Bs
  arity : Int
  wr : Bool
  ct : Bool
  first : Int
  last : Int
  step : Int
  deriving DecidableEq
def spec (r : Rw) : Sc := ⟨r.name, r.arity, r.part == 1, r.part == 2, r.first, r.last, r.step⟩
def controlRows : List Rw := [
  ⟨[100, 105, 115, 99, 97, 114, 100], 1, 2, 0, 0, 0⟩,
  ⟨[101, 120, 101, 99], 1, 2, 0, 0, 0⟩,
  ⟨[109, 117, 108, 116, 105], 1, 2, 0, 0, 0⟩,
  ⟨[113, 117, 105, 116], 1, 2, 0, 0, 0⟩,
  ⟨[114, 101, 115, 101, 116], 1, 2, 0, 0, 0⟩,
  ⟨[117, 110, 119, 97, 116, 99, 104], 1, 2, 0, 0, 0⟩,
  ⟨[119, 97, 116, 99, 104], -2, 2, 1, -1, 1⟩]
def stringRows : List Rw := [
  ⟨[97, 112, 112, 101, 110, 100], 3, 1, 1, 1, 1⟩,
  ⟨[98, 105, 116, 99, 111, 117, 110, 116], -2, 0, 1, 1, 1⟩,
  ⟨[98, 105, 116, 111, 112], -4, 1, 2, -1, 1⟩,
  ⟨[98, 105, 116, 112, 111, 115], -3, 0, 1, 1, 1⟩,
  ⟨[100, 101, 99, 114], 2, 1, 1, 1, 1⟩,
  ⟨[100, 101, 99, 114, 98, 121], 3, 1, 1, 1, 1⟩,
  ⟨[103, 101, 116], 2, 0, 1, 1, 1⟩,
  ⟨[103, 101, 116, 98, 105, 116], 3, 0, 1, 1, 1⟩,
  ⟨[103, 101, 116, 100, 101, 108], 2, 1, 1, 1, 1⟩,
  ⟨[103, 101, 116, 101, 120], -2, 1, 1, 1, 1⟩,
  ⟨[103, 101, 116, 114, 97, 110, 103, 101], 4, 0, 1, 1, 1⟩,
  ⟨[103, 101, 116, 115, 101, 116], 3, 1, 1, 1, 1⟩,
  ⟨[105, 110, 99, 114], 2, 1, 1, 1, 1⟩,
  ⟨[105, 110, 99, 114, 98, 121], 3, 1, 1, 1, 1⟩,
  ⟨[109, 103, 101, 116], -2, 0, 1, -1, 1⟩,
  ⟨[109, 115, 101, 116], -3, 1, 1, -1, 2⟩,
  ⟨[109, 115, 101, 116, 110, 120], -3, 1, 1, -1, 2⟩,
  ⟨[112, 115, 101, 116, 101, 120], 4, 1, 1, 1, 1⟩,
  ⟨[115, 101, 116], -3, 1, 1, 1, 1⟩,
  ⟨[115, 101, 116, 98, 105, 116], 4, 1, 1, 1, 1⟩,
  ⟨[115, 101, 116, 101, 120], 4, 1, 1, 1, 1⟩,
  ⟨[115, 101, 116, 110, 120], 3, 1, 1, 1, 1⟩,
  ⟨[115, 101, 116, 114, 97, 110, 103, 101], 4, 1, 1, 1, 1⟩,
  ⟨[115, 116, 114, 108, 101, 110], 2, 0, 1, 1, 1⟩]
def keyRows : List Rw := [
  ⟨[99, 111, 112, 121], -3, 1, 1, 2, 1⟩,
  ⟨[100, 98, 115, 105, 122, 101], 1, 0, 0, 0, 0⟩,
  ⟨[100, 101, 108], -2, 1, 1, -1, 1⟩,
  ⟨[100, 117, 109, 112], 2, 0, 1, 1, 1⟩,
  ⟨[101, 99, 104, 111], 2, 0, 0, 0, 0⟩,
  ⟨[101, 120, 105, 115, 116, 115], -2, 0, 1, -1, 1⟩,
  ⟨[101, 120, 112, 105, 114, 101], -3, 1, 1, 1, 1⟩,
  ⟨[101, 120, 112, 105, 114, 101, 97, 116], -3, 1, 1, 1, 1⟩,
  ⟨[101, 120, 112, 105, 114, 101, 116, 105, 109, 101], 2, 0, 1, 1, 1⟩,
  ⟨[102, 108, 117, 115, 104, 97, 108, 108], 1, 1, 0, 0, 0⟩,
  ⟨[102, 108, 117, 115, 104, 100, 98], 1, 1, 0, 0, 0⟩,
  ⟨[107, 101, 121, 115], 2, 0, 0, 0, 0⟩,
  ⟨[112, 101, 114, 115, 105, 115, 116], 2, 1, 1, 1, 1⟩,
  ⟨[112, 101, 120, 112, 105, 114, 101], -3, 1, 1, 1, 1⟩,
  ⟨[112, 101, 120, 112, 105, 114, 101, 97, 116], -3, 1, 1, 1, 1⟩,
  ⟨[112, 101, 120, 112, 105, 114, 101, 116, 105, 109, 101], 2, 0, 1, 1, 1⟩,
  ⟨[112, 105, 110, 103], -1, 0, 0, 0, 0⟩,
  ⟨[112, 116, 116, 108], 2, 0, 1, 1, 1⟩,
  ⟨[114, 101, 110, 97, 109, 101], 3, 1, 1, 2, 1⟩,
  ⟨[114, 101, 110, 97, 109, 101, 110, 120], 3, 1, 1, 2, 1⟩,
  ⟨[114, 101, 115, 116, 111, 114, 101], -4, 1, 1, 1, 1⟩,
  ⟨[115, 99, 97, 110], -2, 0, 0, 0, 0⟩,
  ⟨[116, 116, 108], 2, 0, 1, 1, 1⟩,
  ⟨[116, 121, 112, 101], 2, 0, 1, 1, 1⟩,
  ⟨[117, 110, 108, 105, 110, 107], -2, 1, 1, -1, 1⟩]
def listRows : List Rw := [
  ⟨[108, 105, 110, 100, 101, 120], 3, 0, 1, 1, 1⟩,
  ⟨[108, 105, 110, 115, 101, 114, 116], 5, 1, 1, 1, 1⟩,
  ⟨[108, 108, 101, 110], 2, 0, 1, 1, 1⟩,
  ⟨[108, 109, 111, 118, 101], 5, 1, 1, 2, 1⟩,
  ⟨[108, 112, 111, 112], -2, 1, 1, 1, 1⟩,
  ⟨[108, 112, 111, 115], -3, 0, 1, 1, 1⟩,
  ⟨[108, 112, 117, 115, 104], -3, 1, 1, 1, 1⟩,
  ⟨[108, 112, 117, 115, 104, 120], -3, 1, 1, 1, 1⟩,
  ⟨[108, 114, 97, 110, 103, 101], 4, 0, 1, 1, 1⟩,
  ⟨[108, 114, 101, 109], 4, 1, 1, 1, 1⟩,
  ⟨[108, 115, 101, 116], 4, 1, 1, 1, 1⟩,
  ⟨[108, 116, 114, 105, 109], 4, 1, 1, 1, 1⟩,
  ⟨[114, 112, 111, 112], -2, 1, 1, 1, 1⟩,
  ⟨[114, 112, 111, 112, 108, 112, 117, 115, 104], 3, 1, 1, 2, 1⟩,
  ⟨[114, 112, 117, 115, 104], -3, 1, 1, 1, 1⟩,
  ⟨[114, 112, 117, 115, 104, 120], -3, 1, 1, 1, 1⟩]
def hashRows : List Rw := [
  ⟨[104, 100, 101, 108], -3, 1, 1, 1, 1⟩,
  ⟨[104, 101, 120, 105, 115, 116, 115], 3, 0, 1, 1, 1⟩,
  ⟨[104, 103, 101, 116], 3, 0, 1, 1, 1⟩,
  ⟨[104, 103, 101, 116, 97, 108, 108], 2, 0, 1, 1, 1⟩,
  ⟨[104, 105, 110, 99, 114, 98, 121], 4, 1, 1, 1, 1⟩,
  ⟨[104, 107, 101, 121, 115], 2, 0, 1, 1, 1⟩,
  ⟨[104, 108, 101, 110], 2, 0, 1, 1, 1⟩,
  ⟨[104, 109, 103, 101, 116], -3, 0, 1, 1, 1⟩,
  ⟨[104, 109, 115, 101, 116], -4, 1, 1, 1, 1⟩,
  ⟨[104, 115, 99, 97, 110], -3, 0, 1, 1, 1⟩,
  ⟨[104, 115, 101, 116], -4, 1, 1, 1, 1⟩,
  ⟨[104, 115, 101, 116, 110, 120], 4, 1, 1, 1, 1⟩,
  ⟨[104, 115, 116, 114, 108, 101, 110], 3, 0, 1, 1, 1⟩,
  ⟨[104, 118, 97, 108, 115], 2, 0, 1, 1, 1⟩]
def setRows : List Rw := [
  ⟨[115, 97, 100, 100], -3, 1, 1, 1, 1⟩,
  ⟨[115, 99, 97, 114, 100], 2, 0, 1, 1, 1⟩,
  ⟨[115, 100, 105, 102, 102], -2, 0, 1, -1, 1⟩,
  ⟨[115, 100, 105, 102, 102, 115, 116, 111, 114, 101], -3, 1, 1, -1, 1⟩,
  ⟨[115, 105, 110, 116, 101, 114], -2, 0, 1, -1, 1⟩,
  ⟨[115, 105, 110, 116, 101, 114, 115, 116, 111, 114, 101], -3, 1, 1, -1, 1⟩,
  ⟨[115, 105, 115, 109, 101, 109, 98, 101, 114], 3, 0, 1, 1, 1⟩,
  ⟨[115, 109, 101, 109, 98, 101, 114, 115], 2, 0, 1, 1, 1⟩,
  ⟨[115, 109, 105, 115, 109, 101, 109, 98, 101, 114], -3, 0, 1, 1, 1⟩,
  ⟨[115, 109, 111, 118, 101], 4, 1, 1, 2, 1⟩,
  ⟨[115, 112, 111, 112], -2, 1, 1, 1, 1⟩,
  ⟨[115, 114, 101, 109], -3, 1, 1, 1, 1⟩,
  ⟨[115, 115, 99, 97, 110], -3, 0, 1, 1, 1⟩,
  ⟨[115, 117, 110, 105, 111, 110], -2, 0, 1, -1, 1⟩,
  ⟨[115, 117, 110, 105, 111, 110, 115, 116, 111, 114, 101], -3, 1, 1, -1, 1⟩]
def scoreRows : List Rw := [
  ⟨[122, 97, 100, 100], -4, 1, 1, 1, 1⟩,
  ⟨[122, 99, 97, 114, 100], 2, 0, 1, 1, 1⟩,
  ⟨[122, 99, 111, 117, 110, 116], 4, 0, 1, 1, 1⟩,
  ⟨[122, 105, 110, 99, 114, 98, 121], 4, 1, 1, 1, 1⟩,
  ⟨[122, 108, 101, 120, 99, 111, 117, 110, 116], 4, 0, 1, 1, 1⟩,
  ⟨[122, 109, 115, 99, 111, 114, 101], -3, 0, 1, 1, 1⟩,
  ⟨[122, 112, 111, 112, 109, 97, 120], -2, 1, 1, 1, 1⟩,
  ⟨[122, 112, 111, 112, 109, 105, 110], -2, 1, 1, 1, 1⟩,
  ⟨[122, 114, 97, 110, 103, 101], -4, 0, 1, 1, 1⟩,
  ⟨[122, 114, 97, 110, 107], 3, 0, 1, 1, 1⟩,
  ⟨[122, 114, 101, 109], -3, 1, 1, 1, 1⟩,
  ⟨[122, 114, 101, 109, 114, 97, 110, 103, 101, 98, 121, 108, 101, 120], 4, 1, 1, 1, 1⟩,
  ⟨[122, 114, 101, 109, 114, 97, 110, 103, 101, 98, 121, 114, 97, 110, 107], 4, 1, 1, 1, 1⟩,
  ⟨[122, 114, 101, 109, 114, 97, 110, 103, 101, 98, 121, 115, 99, 111, 114, 101], 4, 1, 1, 1, 1⟩,
  ⟨[122, 114, 101, 118, 114, 97, 110, 107], 3, 0, 1, 1, 1⟩,
  ⟨[122, 115, 99, 97, 110], -3, 0, 1, 1, 1⟩,
  ⟨[122, 115, 99, 111, 114, 101], 3, 0, 1, 1, 1⟩]
def docRows : List Sc := [
  ⟨[97, 112, 112, 101, 110, 100], 3, true, false, 1, 1, 1⟩,
  ⟨[98, 105, 116, 99, 111, 117, 110, 116], -2, false, false, 1, 1, 1⟩,
  ⟨[98, 105, 116, 111, 112], -4, true, false, 2, -1, 1⟩,
  ⟨[98, 105, 116, 112, 111, 115], -3, false, false, 1, 1, 1⟩,
  ⟨[99, 111, 112, 121], -3, true, false, 1, 2, 1⟩,
  ⟨[100, 98, 115, 105, 122, 101], 1, false, false, 0, 0, 0⟩,
  ⟨[100, 101, 99, 114], 2, true, false, 1, 1, 1⟩,
  ⟨[100, 101, 99, 114, 98, 121], 3, true, false, 1, 1, 1⟩,
  ⟨[100, 101, 108], -2, true, false, 1, -1, 1⟩,
  ⟨[100, 105, 115, 99, 97, 114, 100], 1, false, true, 0, 0, 0⟩,
  ⟨[100, 117, 109, 112], 2, false, false, 1, 1, 1⟩,
  ⟨[101, 99, 104, 111], 2, false, false, 0, 0, 0⟩,
  ⟨[101, 120, 101, 99], 1, false, true, 0, 0, 0⟩,
  ⟨[101, 120, 105, 115, 116, 115], -2, false, false, 1, -1, 1⟩,
  ⟨[101, 120, 112, 105, 114, 101], -3, true, false, 1, 1, 1⟩,
  ⟨[101, 120, 112, 105, 114, 101, 97, 116], -3, true, false, 1, 1, 1⟩,
  ⟨[101, 120, 112, 105, 114, 101, 116, 105, 109, 101], 2, false, false, 1, 1, 1⟩,
  ⟨[102, 108, 117, 115, 104, 97, 108, 108], 1, true, false, 0, 0, 0⟩,
  ⟨[102, 108, 117, 115, 104, 100, 98], 1, true, false, 0, 0, 0⟩,
  ⟨[103, 101, 116], 2, false, false, 1, 1, 1⟩,
  ⟨[103, 101, 116, 98, 105, 116], 3, false, false, 1, 1, 1⟩,
  ⟨[103, 101, 116, 100, 101, 108], 2, true, false, 1, 1, 1⟩,
  ⟨[103, 101, 116, 101, 120], -2, true, false, 1, 1, 1⟩,
  ⟨[103, 101, 116, 114, 97, 110, 103, 101], 4, false, false, 1, 1, 1⟩,
  ⟨[103, 101, 116, 115, 101, 116], 3, true, false, 1, 1, 1⟩,
  ⟨[104, 100, 101, 108], -3, true, false, 1, 1, 1⟩,
  ⟨[104, 101, 120, 105, 115, 116, 115], 3, false, false, 1, 1, 1⟩,
  ⟨[104, 103, 101, 116], 3, false, false, 1, 1, 1⟩,
  ⟨[104, 103, 101, 116, 97, 108, 108], 2, false, false, 1, 1, 1⟩,
  ⟨[104, 105, 110, 99, 114, 98, 121], 4, true, false, 1, 1, 1⟩,
  ⟨[104, 107, 101, 121, 115], 2, false, false, 1, 1, 1⟩,
  ⟨[104, 108, 101, 110], 2, false, false, 1, 1, 1⟩,
  ⟨[104, 109, 103, 101, 116], -3, false, false, 1, 1, 1⟩,
  ⟨[104, 109, 115, 101, 116], -4, true, false, 1, 1, 1⟩,
  ⟨[104, 115, 99, 97, 110], -3, false, false, 1, 1, 1⟩,
  ⟨[104, 115, 101, 116], -4, true, false, 1, 1, 1⟩,
  ⟨[104, 115, 101, 116, 110, 120], 4, true, false, 1, 1, 1⟩,
  ⟨[104, 115, 116, 114, 108, 101, 110], 3, false, false, 1, 1, 1⟩,
  ⟨[104, 118, 97, 108, 115], 2, false, false, 1, 1, 1⟩,
  ⟨[105, 110, 99, 114], 2, true, false, 1, 1, 1⟩,
  ⟨[105, 110, 99, 114, 98, 121], 3, true, false, 1, 1, 1⟩,
  ⟨[107, 101, 121, 115], 2, false, false, 0, 0, 0⟩,
  ⟨[108, 105, 110, 100, 101, 120], 3, false, false, 1, 1, 1⟩,
  ⟨[108, 105, 110, 115, 101, 114, 116], 5, true, false, 1, 1, 1⟩,
  ⟨[108, 108, 101, 110], 2, false, false, 1, 1, 1⟩,
  ⟨[108, 109, 111, 118, 101], 5, true, false, 1, 2, 1⟩,
  ⟨[108, 112, 111, 112], -2, true, false, 1, 1, 1⟩,
  ⟨[108, 112, 111, 115], -3, false, false, 1, 1, 1⟩,
  ⟨[108, 112, 117, 115, 104], -3, true, false, 1, 1, 1⟩,
  ⟨[108, 112, 117, 115, 104, 120], -3, true, false, 1, 1, 1⟩,
  ⟨[108, 114, 97, 110, 103, 101], 4, false, false, 1, 1, 1⟩,
  ⟨[108, 114, 101, 109], 4, true, false, 1, 1, 1⟩,
  ⟨[108, 115, 101, 116], 4, true, false, 1, 1, 1⟩,
  ⟨[108, 116, 114, 105, 109], 4, true, false, 1, 1, 1⟩,
  ⟨[109, 103, 101, 116], -2, false, false, 1, -1, 1⟩,
  ⟨[109, 115, 101, 116], -3, true, false, 1, -1, 2⟩,
  ⟨[109, 115, 101, 116, 110, 120], -3, true, false, 1, -1, 2⟩,
  ⟨[109, 117, 108, 116, 105], 1, false, true, 0, 0, 0⟩,
  ⟨[112, 101, 114, 115, 105, 115, 116], 2, true, false, 1, 1, 1⟩,
  ⟨[112, 101, 120, 112, 105, 114, 101], -3, true, false, 1, 1, 1⟩,
  ⟨[112, 101, 120, 112, 105, 114, 101, 97, 116], -3, true, false, 1, 1, 1⟩,
  ⟨[112, 101, 120, 112, 105, 114, 101, 116, 105, 109, 101], 2, false, false, 1, 1, 1⟩,
  ⟨[112, 105, 110, 103], -1, false, false, 0, 0, 0⟩,
  ⟨[112, 115, 101, 116, 101, 120], 4, true, false, 1, 1, 1⟩,
  ⟨[112, 116, 116, 108], 2, false, false, 1, 1, 1⟩,
  ⟨[113, 117, 105, 116], 1, false, true, 0, 0, 0⟩,
  ⟨[114, 101, 110, 97, 109, 101], 3, true, false, 1, 2, 1⟩,
  ⟨[114, 101, 110, 97, 109, 101, 110, 120], 3, true, false, 1, 2, 1⟩,
  ⟨[114, 101, 115, 101, 116], 1, false, true, 0, 0, 0⟩,
  ⟨[114, 101, 115, 116, 111, 114, 101], -4, true, false, 1, 1, 1⟩,
  ⟨[114, 112, 111, 112], -2, true, false, 1, 1, 1⟩,
  ⟨[114, 112, 111, 112, 108, 112, 117, 115, 104], 3, true, false, 1, 2, 1⟩,
  ⟨[114, 112, 117, 115, 104], -3, true, false, 1, 1, 1⟩,
  ⟨[114, 112, 117, 115, 104, 120], -3, true, false, 1, 1, 1⟩,
  ⟨[115, 97, 100, 100], -3, true, false, 1, 1, 1⟩,
  ⟨[115, 99, 97, 110], -2, false, false, 0, 0, 0⟩,
  ⟨[115, 99, 97, 114, 100], 2, false, false, 1, 1, 1⟩,
  ⟨[115, 100, 105, 102, 102], -2, false, false, 1, -1, 1⟩,
  ⟨[115, 100, 105, 102, 102, 115, 116, 111, 114, 101], -3, true, false, 1, -1, 1⟩,
  ⟨[115, 101, 116], -3, true, false, 1, 1, 1⟩,
  ⟨[115, 101, 116, 98, 105, 116], 4, true, false, 1, 1, 1⟩,
  ⟨[115, 101, 116, 101, 120], 4, true, false, 1, 1, 1⟩,
  ⟨[115, 101, 116, 110, 120], 3, true, false, 1, 1, 1⟩,
  ⟨[115, 101, 116, 114, 97, 110, 103, 101], 4, true, false, 1, 1, 1⟩,
  ⟨[115, 105, 110, 116, 101, 114], -2, false, false, 1, -1, 1⟩,
  ⟨[115, 105, 110, 116, 101, 114, 115, 116, 111, 114, 101], -3, true, false, 1, -1, 1⟩,
  ⟨[115, 105, 115, 109, 101, 109, 98, 101, 114], 3, false, false, 1, 1, 1⟩,
  ⟨[115, 109, 101, 109, 98, 101, 114, 115], 2, false, false, 1, 1, 1⟩,
  ⟨[115, 109, 105, 115, 109, 101, 109, 98, 101, 114], -3, false, false, 1, 1, 1⟩,
  ⟨[115, 109, 111, 118, 101], 4, true, false, 1, 2, 1⟩,
  ⟨[115, 112, 111, 112], -2, true, false, 1, 1, 1⟩,
  ⟨[115, 114, 101, 109], -3, true, false, 1, 1, 1⟩,
  ⟨[115, 115, 99, 97, 110], -3, false, false, 1, 1, 1⟩,
  ⟨[115, 116, 114, 108, 101, 110], 2, false, false, 1, 1, 1⟩,
  ⟨[115, 117, 110, 105, 111, 110], -2, false, false, 1, -1, 1⟩,
  ⟨[115, 117, 110, 105, 111, 110, 115, 116, 111, 114, 101], -3, true, false, 1, -1, 1⟩,
  ⟨[116, 116, 108], 2, false, false, 1, 1, 1⟩,
  ⟨[116, 121, 112, 101], 2, false, false, 1, 1, 1⟩,
  ⟨[117, 110, 108, 105, 110, 107], -2, true, false, 1, -1, 1⟩,
  ⟨[117, 110, 119, 97, 116, 99, 104], 1, false, true, 0, 0, 0⟩,
  ⟨[119, 97, 116, 99, 104], -2, false, true, 1, -1, 1⟩,
  ⟨[122, 97, 100, 100], -4, true, false, 1, 1, 1⟩,
  ⟨[122, 99, 97, 114, 100], 2, false, false, 1, 1, 1⟩,
  ⟨[122, 99, 111, 117, 110, 116], 4, false, false, 1, 1, 1⟩,
  ⟨[122, 105, 110, 99, 114, 98, 121], 4, true, false, 1, 1, 1⟩,
  ⟨[122, 108, 101, 120, 99, 111, 117, 110, 116], 4, false, false, 1, 1, 1⟩,
  ⟨[122, 109, 115, 99, 111, 114, 101], -3, false, false, 1, 1, 1⟩,
  ⟨[122, 112, 111, 112, 109, 97, 120], -2, true, false, 1, 1, 1⟩,
  ⟨[122, 112, 111, 112, 109, 105, 110], -2, true, false, 1, 1, 1⟩,
  ⟨[122, 114, 97, 110, 103, 101], -4, false, false, 1, 1, 1⟩,
  ⟨[122, 114, 97, 110, 107], 3, false, false, 1, 1, 1⟩,
  ⟨[122, 114, 101, 109], -3, true, false, 1, 1, 1⟩,
  ⟨[122, 114, 101, 109, 114, 97, 110, 103, 101, 98, 121, 108, 101, 120], 4, true, false, 1, 1, 1⟩,
  ⟨[122, 114, 101, 109, 114, 97, 110, 103, 101, 98, 121, 114, 97, 110, 107], 4, true, false, 1, 1, 1⟩,
  ⟨[122, 114, 101, 109, 114, 97, 110, 103, 101, 98, 121, 115, 99, 111, 114, 101], 4, true, false, 1, 1, 1⟩,
  ⟨[122, 114, 101, 118, 114, 97, 110, 107], 3, false, false, 1, 1, 1⟩,
  ⟨[122, 115, 99, 97, 110], -3, false, false, 1, 1, 1⟩,
  ⟨[122, 115, 99, 111, 114, 101], 3, false, false, 1, 1, 1⟩]
def allRows : List Rw := controlRows ++ stringRows ++ keyRows ++ listRows ++ hashRows ++ setRows ++ scoreRows
def findR (s : Bs) : Option Rw := allRows.find? (fun r => r.name == s)
def findS (s : Bs) : Option Sc := docRows.find? (fun r => r.name == s)
theorem all_len : allRows.length = 118 := by decide +kernel
theorem doc_len : docRows.length = 118 := by decide +kernel
def names : List Bs := docRows.map (·.name)
theorem names_ok : names.all (fun s => decide ((findR s).map spec = findS s)) = true := by decide +kernel
theorem all_in : allRows.all (fun r => names.contains r.name) = true := by decide +kernel
theorem find_same (s : Bs) : (findR s).map spec = findS s := by
  by_cases h : s ∈ names
  · exact of_decide_eq_true (List.all_eq_true.1 names_ok s h)
  · have h1 : findR s = none := by
      unfold findR
      rw [List.find?_eq_none]
      intro r hr e
      have := List.all_eq_true.1 all_in r hr
      rw [List.contains_iff_mem] at this
      rw [eq_of_beq e] at this
      exact h this
    have h2 : findS s = none := by
      unfold findS
      rw [List.find?_eq_none]
      intro r hr e
      exact h (List.mem_map.2 ⟨r, hr, eq_of_beq e⟩)
    rw [h1, h2]
    rfl
def okB (r : Sc) : Bool := decide (-5 ≤ r.arity ∧ r.arity ≤ 5 ∧ r.arity ≠ 0 ∧ 0 ≤ r.first ∧ r.first ≤ 2 ∧ -1 ≤ r.last ∧ r.last ≤ 2 ∧ 0 ≤ r.step ∧ r.step ≤ 2 ∧ r.name.length ≤ 32 ∧ 0 < r.name.length)
theorem doc_ok : docRows.all okB = true := by decide +kernel
theorem all_ok : allRows.all (fun r => okB (spec r)) = true := by decide +kernel
end Go.Proofs.YtcgdnpcegcmboaaGreatDoor.Tab
end
