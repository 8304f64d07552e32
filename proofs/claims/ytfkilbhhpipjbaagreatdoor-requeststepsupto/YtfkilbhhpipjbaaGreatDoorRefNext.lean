/- The document's own Next. -/
import Derived.Test.YtfkilbhhpipjbaaGreatDoorRefThing
import Derived.Deep.RegionHeld3
namespace Go.Proofs.YtfkilbhhpipjbaaGreatDoor.RefNext
open Go.RowKit
open Go.Proofs.YtfkilbhhpipjbaaGreatDoor.TextMath
open Go.Proofs.YtfkilbhhpipjbaaGreatDoor.ReqMath
open Go.Proofs.YtfkilbhhpipjbaaGreatDoor.Base
open Go.Proofs.YtfkilbhhpipjbaaGreatDoor.Small
open Go.Proofs.YtfkilbhhpipjbaaGreatDoor.Bulk2
open Go.Proofs.YtfkilbhhpipjbaaGreatDoor.BulkAny
open Go.Proofs.YtfkilbhhpipjbaaGreatDoor.RefBulk
open Go.Proofs.YtfkilbhhpipjbaaGreatDoor.RefThing
open Go.Proofs.YtfkilbhhpipjbaaGreatDoor.Whole
set_option linter.unusedVariables false

def rr (L : Lim) (s : ByteArray) (a : Nat) (x : ByteArray) (e : Bool) : Array Value := #[.int .i64 L.bulk, .int .i64 L.args, .int .i64 L.line, .string s, .int .i64 (a : Int), .string x, .bool e]
def RR (b : Nat) (L : Lim) (s : ByteArray) (a : Nat) (x : ByteArray) (e : Bool) (w : World) : Prop := w.heap[b]? = some (.cells (rr L s a x e) 46 (0, 0))
def nxE (b : Nat) (L : Lim) (s : ByteArray) (a : Nat) (w : World) (e : Ending) (w' : World) : NR → Prop
  | .more k => e = .returned (.tuple #[.slice none 0 0, .int .i64 0]) ∧ RR b L s (a + k) ⟨#[]⟩ false w' ∧ Fr (fun q => q = b) w w'
  | .fault k x => e = .returned (.tuple #[.slice none 0 0, .int .i64 2]) ∧ RR b L s (a + k) (mk x) true w' ∧ Fr (fun q => q = b) w w'
  | .one k ws => ∃ v, e = .returned (.tuple #[v, .int .i64 1]) ∧ WS w' v ws ∧ (∀ g, v.ownBlock = some g → w.heap.size ≤ g) ∧ RR b L s (a + k) ⟨#[]⟩ false w' ∧ Fr (fun q => q = b) w w'
theorem rr_below {b : Nat} {L : Lim} {s : ByteArray} {a : Nat} {x : ByteArray} {e : Bool} {w w' : World} (h : RR b L s a x e w) (hb : Below w.heap.size w w') : RR b L s a x e w' := (hb.block b (lt_of h)).trans h
theorem nr_add (x : NR) (m c : Nat) : (x.add m).add c = x.add (c + m) := by cases x <;> simp [NR.add, Nat.add_assoc]
theorem nr_zero (x : NR) : x.add 0 = x := by cases x <;> simp [NR.add]
structure Ni (b : Nat) (L : Lim) (s : ByteArray) (a c : Nat) (w wx : World) : Prop where
  eq : nextS L ((bs s).drop a) = (nextS L ((bs s).drop c)).add (c - a)
  lo : a ≤ c
  hi : c ≤ s.size
  rr : RR b L s c ⟨#[]⟩ false wx
  fr : Fr (fun q => q = b) w wx
theorem ws_rr {w : World} {b i : Nat} {c : Array Value} {v u : Value} {ws : List (List UInt8)} (h : WS w v ws) (hb : w.heap[b]? = some (.cells c 46 (0, 0))) : WS (w.setCell ⟨b, i, none⟩ u) v ws := by
  refine ws_keep h fun g cs fz hg => set_ne ?_ _
  rintro rfl
  rw [hg] at hb
  injection hb with hb
  injection hb with _ hb
  cases hb
structure Nb (b : Nat) (L : Lim) (s : ByteArray) (c : Nat) (V : World) (p : Nat) (W : World) (cs : Array Value) : Prop where
  bx : W.heap[p]? = some (.cells cs 79 (0, 0))
  rr : RR b L s c ⟨#[]⟩ false W
  bl : Below V.heap.size V W
  ne : p ≠ b
theorem box_a {V w3 : World} (b3 : Below (V.drew.alloc o79).heap.size (V.drew.alloc o79) w3) : w3.heap[V.heap.size]? = some o79 ∧ Below V.heap.size V w3 := by
  refine ⟨(b3.block _ (by simp)).trans (heap_alloc_new V.drew o79), ?_⟩
  have h0 : Below V.heap.size V V.drew := ⟨rfl, rfl, rfl, Nat.le_refl _, fun _ _ => rfl⟩
  exact (h0.alloc (Nat.le_refl _) o79).trans (b3.mono (by simp))
theorem box_b {V w3 : World} (b3 : Below V.drew.heap.size V.drew w3) : (w3.alloc o79).heap[w3.heap.size]? = some o79 ∧ Below V.heap.size V w3 := by
  refine ⟨heap_alloc_new w3 o79, ?_⟩
  have h0 : Below V.heap.size V V.drew := ⟨rfl, rfl, rfl, Nat.le_refl _, fun _ _ => rfl⟩
  exact h0.trans b3
theorem nb_b {b : Nat} {L : Lim} {s : ByteArray} {c : Nat} {V w3 : World} {cs : Array Value} (hr : RR b L s c ⟨#[]⟩ false V) (h : Below V.heap.size V w3) : Nb b L s c V w3.heap.size (w3.alloc (.cells cs 79)) cs := by
  have hr3 := rr_below hr h
  exact ⟨heap_alloc_new w3 _, (Below.heap_alloc _ _ _ (lt_of hr3)).trans hr3, h.alloc h.size _, fun e => by have := lt_of hr3; omega⟩
theorem nb_a {b : Nat} {L : Lim} {s : ByteArray} {c : Nat} {V w3 : World} {v0 v1 v2 v3 : Value} (hr : RR b L s c ⟨#[]⟩ false V) (h : Below V.heap.size V w3) (hb : w3.heap[V.heap.size]? = some o79) : Nb b L s c V V.heap.size ((((w3.setCell ⟨V.heap.size, 0, none⟩ v0).setCell ⟨V.heap.size, 1, none⟩ v1).setCell ⟨V.heap.size, 2, none⟩ v2).setCell ⟨V.heap.size, 3, none⟩ v3) #[v0, v1, v2, v3] := by
  have hb4 := box_below (v0 := v0) (v1 := v1) (v2 := v2) (v3 := v3) h (Nat.le_refl _)
  exact ⟨box_set hb, rr_below hr hb4, hb4, fun e => by have := lt_of hr; omega⟩
theorem ws_a {w3 : World} {b : Nat} {v v0 v1 v2 v3 : Value} {ws : List (List UInt8)} (h : WS w3 v ws) (hb : w3.heap[b]? = some o79) : WS ((((w3.setCell ⟨b, 0, none⟩ v0).setCell ⟨b, 1, none⟩ v1).setCell ⟨b, 2, none⟩ v2).setCell ⟨b, 3, none⟩ v3) v ws := ws_box h hb
theorem ws_b {w3 : World} {v : Value} {o : Obj} {ws : List (List UInt8)} (h : WS w3 v ws) : WS (w3.alloc o) v ws := owns_below h ((Below.refl _ w3).alloc (Nat.le_refl _) _)
theorem rr_at {b : Nat} {L : Lim} {s : ByteArray} {c d : Nat} {x : ByteArray} {e : Bool} {w : World} (h : RR b L s c x e w) : RR b L s d x e (w.setCell ⟨b, 4, none⟩ (.int .i64 (d : Int))) := set_at (i := 4) h (.int .i64 (d : Int))
theorem rr_end {b : Nat} {L : Lim} {s : ByteArray} {c : Nat} {x y : ByteArray} {e : Bool} {w : World} (h : RR b L s c x e w) : RR b L s c y true ((w.setCell ⟨b, 6, none⟩ (.bool true)).setCell ⟨b, 5, none⟩ (.string y)) := set_at (i := 5) (set_at (i := 6) h (.bool true)) (.string y)
theorem next_nil_more (L : Lim) : nextS L [] = .more 0 := next_more rfl
set_option maxHeartbeats 8000000 in
set_option maxRecDepth 100000 in
theorem rnext_call (b : Nat) (L : Lim) (hL : Lok L) (s : ByteArray) (a : Nat) (ha : a ≤ s.size) (hz : s.size ≤ 67108864) (w : World) (h8 : 8 ≤ w.heap.size) (h : RR b L s a ⟨#[]⟩ false w) :
    Calls Tryz.prog 24 #[.pointer (some ⟨b, 0, none⟩)] w fun e w' => nxE b L s a w e w' (nextS L ((bs s).drop a)) := by
  have hsl : (bs s).length = s.size := len_bs s
  have X0 : Hid (Ni b L s a a w w) := ⟨by rw [Nat.sub_self, nr_zero], Nat.le_refl _, ha, h, Fr.refl _ _⟩
  clear h
  go_enter Tryz.func24, Tryz.ntmps24
  go_wp2_with fail
  go_loopg [] s.size (fun g wx => ∃ c : Nat, s.size ≤ c + g ∧ Hid (Ni b L s a c w wx))
  case atStart => exact ⟨a, by omega, X0⟩
  case round =>
    obtain ⟨c, hg, I⟩ := hrel
    have i6 : wr.cell? ⟨b, 6, none⟩ = some (.bool false) := Lib.cell_of_heap I.out.rr 6
    have i4 : wr.cell? ⟨b, 4, none⟩ = some (.int .i64 (c : Int)) := Lib.cell_of_heap I.out.rr 4
    have i3 : wr.cell? ⟨b, 3, none⟩ = some (.string s) := Lib.cell_of_heap I.out.rr 3
    have i0 : wr.cell? ⟨b, 0, none⟩ = some (.int .i64 L.bulk) := Lib.cell_of_heap I.out.rr 0
    have i1 : wr.cell? ⟨b, 1, none⟩ = some (.int .i64 L.args) := Lib.cell_of_heap I.out.rr 1
    have i2 : wr.cell? ⟨b, 2, none⟩ = some (.int .i64 L.line) := Lib.cell_of_heap I.out.rr 2
    have hlo := I.out.lo
    have hhi := I.out.hi
    by_cases hlt : c < s.size
    · have q1 : decide ((c : Int) < (s.size : Int)) = true := decide_eq_true (by omega)
      have q2 : decide (c < s.size) = true := decide_eq_true hlt
      have HT := hid_of (fun (W : World) (h : 8 ≤ W.heap.size) => rthing_call L hL s c hlt hz W h)
      unfold limV at HT
      have h8r : 8 ≤ wr.heap.size := Nat.le_trans h8 I.out.fr.size
      have HA : Hid (a + (c - a) = c) := by show _ = _; omega
      go_wp2_with fail
      go_quiet (fail)
      go_wp2_with fail
      obtain ⟨V, hV⟩ : ∃ V, V = wr.drewN nq := ⟨_, rfl⟩
      have IV : Hid (Ni b L s a c w V) := by rw [hV]; exact ⟨I.out.eq, I.out.lo, I.out.hi, I.out.rr, I.out.fr.trans (Fr.of_below ⟨rfl, rfl, rfl, Nat.le_refl _, fun _ _ => rfl⟩)⟩
      have h8v : 8 ≤ V.heap.size := by rw [hV]; exact h8r
      rw [← hV]
      clear i0 i1 i2 i3 i4 i6 hV I h8r
      have i0 : V.cell? ⟨b, 0, none⟩ = some (.int .i64 L.bulk) := Lib.cell_of_heap IV.out.rr 0
      have i1 : V.cell? ⟨b, 1, none⟩ = some (.int .i64 L.args) := Lib.cell_of_heap IV.out.rr 1
      have i2 : V.cell? ⟨b, 2, none⟩ = some (.int .i64 L.line) := Lib.cell_of_heap IV.out.rr 2
      have i3 : V.cell? ⟨b, 3, none⟩ = some (.string s) := Lib.cell_of_heap IV.out.rr 3
      have i4 : V.cell? ⟨b, 4, none⟩ = some (.int .i64 (c : Int)) := Lib.cell_of_heap IV.out.rr 4
      cases ht : thingS L ((bs s).drop c) with
      | more =>
        rw [ht] at HT
        unfold thE at HT
        have HQ : Hid (nextS L ((bs s).drop a) = .more (c - a)) := by show _ = _; rw [IV.out.eq, next_more ht]; simp [NR.add]
        clear ht
        have n0 := World.new_ne V _ i0
        have n1 := World.new_ne V _ i1
        have n2 := World.new_ne V _ i2
        have n3 := World.new_ne V _ i3
        have n4 := World.new_ne V _ i4
        go_region_held3 (fun W => W.cell? ⟨b, 0, none⟩ = some (.int .i64 L.bulk) ∧ W.cell? ⟨b, 1, none⟩ = some (.int .i64 L.args) ∧ W.cell? ⟨b, 2, none⟩ = some (.int .i64 L.line) ∧ W.cell? ⟨b, 3, none⟩ = some (.string s) ∧ W.cell? ⟨b, 4, none⟩ = some (.int .i64 (c : Int))) (first | exact ⟨i0, i1, i2, i3, i4⟩ | exact ⟨s0, s1, s2, s3, s4⟩ | go_keep) (first | (go_at_call 43; refine Calls.mono (HT.out _ ?_) ?_; (first | exact h8v | (simp; omega)); rintro e w3 ⟨rfl, b3⟩; (first | (obtain ⟨hb3, bb3⟩ := box_a b3; have B3 := hid_of bb3; have HB3 := hid_of hb3; clear bb3; have k0 : w3.cell? ⟨V.heap.size, 0, none⟩ = some (.slice none 0 0) := Lib.cell_of_heap hb3 0; have k1 : w3.cell? ⟨V.heap.size, 1, none⟩ = some (.int .i64 0) := Lib.cell_of_heap hb3 1; have k2 : w3.cell? ⟨V.heap.size, 2, none⟩ = some (.int .i64 0) := Lib.cell_of_heap hb3 2; have k3 : w3.cell? ⟨V.heap.size, 3, none⟩ = some (.string ⟨#[]⟩) := Lib.cell_of_heap hb3 3; have z0 := Lib.frozen_of_heap hb3 0; have z1 := Lib.frozen_of_heap hb3 1; have z2 := Lib.frozen_of_heap hb3 2; have z3 := Lib.frozen_of_heap hb3 3; have hr3 : RR b L s c ⟨#[]⟩ false w3 := (b3.block b (by have := lt_of IV.out.rr; simp; omega)).trans ((Below.heap_alloc _ _ _ (lt_of IV.out.rr)).trans IV.out.rr); have s0 : w3.cell? ⟨b, 0, none⟩ = some (.int .i64 L.bulk) := Lib.cell_of_heap hr3 0; have s1 : w3.cell? ⟨b, 1, none⟩ = some (.int .i64 L.args) := Lib.cell_of_heap hr3 1; have s2 : w3.cell? ⟨b, 2, none⟩ = some (.int .i64 L.line) := Lib.cell_of_heap hr3 2; have s3 : w3.cell? ⟨b, 3, none⟩ = some (.string s) := Lib.cell_of_heap hr3 3; have s4 : w3.cell? ⟨b, 4, none⟩ = some (.int .i64 (c : Int)) := Lib.cell_of_heap hr3 4; have m0 := World.new_ne w3 _ s0; have m1 := World.new_ne w3 _ s1; have m2 := World.new_ne w3 _ s2; have m3 := World.new_ne w3 _ s3; have m4 := World.new_ne w3 _ s4; clear b3 hr3) | (obtain ⟨hb3, bb3⟩ := box_b b3; have B3 := hid_of bb3; clear bb3; have k0 : (w3.alloc o79).cell? ⟨w3.heap.size, 0, none⟩ = some (.slice none 0 0) := Lib.cell_of_heap hb3 0; have k1 : (w3.alloc o79).cell? ⟨w3.heap.size, 1, none⟩ = some (.int .i64 0) := Lib.cell_of_heap hb3 1; have k2 : (w3.alloc o79).cell? ⟨w3.heap.size, 2, none⟩ = some (.int .i64 0) := Lib.cell_of_heap hb3 2; have k3 : (w3.alloc o79).cell? ⟨w3.heap.size, 3, none⟩ = some (.string ⟨#[]⟩) := Lib.cell_of_heap hb3 3; have z0 := Lib.frozen_of_heap hb3 0; have z1 := Lib.frozen_of_heap hb3 1; have z2 := Lib.frozen_of_heap hb3 2; have z3 := Lib.frozen_of_heap hb3 3; have hr3 : RR b L s c ⟨#[]⟩ false w3 := (b3.block b (lt_of IV.out.rr)).trans IV.out.rr; have s0 : w3.cell? ⟨b, 0, none⟩ = some (.int .i64 L.bulk) := Lib.cell_of_heap hr3 0; have s1 : w3.cell? ⟨b, 1, none⟩ = some (.int .i64 L.args) := Lib.cell_of_heap hr3 1; have s2 : w3.cell? ⟨b, 2, none⟩ = some (.int .i64 L.line) := Lib.cell_of_heap hr3 2; have s3 : w3.cell? ⟨b, 3, none⟩ = some (.string s) := Lib.cell_of_heap hr3 3; have s4 : w3.cell? ⟨b, 4, none⟩ = some (.int .i64 (c : Int)) := Lib.cell_of_heap hr3 4; have m0 := World.new_ne w3 _ s0; have m1 := World.new_ne w3 _ s1; have m2 := World.new_ne w3 _ s2; have m3 := World.new_ne w3 _ s3; have m4 := World.new_ne w3 _ s4; clear b3 hr3))))
        · obtain ⟨V4, hV4⟩ : ∃ V4, V4 = w3.alloc (.cells #[.slice none 0 0, .int .i64 0, .int .i64 0, .string ⟨#[]⟩] 79) := ⟨_, rfl⟩
          obtain ⟨p, hp⟩ : ∃ p, p = w3.heap.size := ⟨_, rfl⟩
          have N : Hid (Nb b L s c V p V4 #[.slice none 0 0, .int .i64 0, .int .i64 0, .string ⟨#[]⟩]) := by rw [hV4, hp]; exact nb_b IV.out.rr B3.out
          rw [← hV4, ← hp]
          clear k0 k1 k2 k3 z0 z1 z2 z3 s0 s1 s2 s3 s4 m0 m1 m2 m3 m4 n0 n1 n2 n3 n4 i0 i1 i2 i3 i4 hb3 hV4 hp
          have f0 : V4.cell? ⟨p, 0, none⟩ = some (.slice none 0 0) := Lib.cell_of_heap N.out.bx 0
          have f1 : V4.cell? ⟨p, 1, none⟩ = some (.int .i64 0) := Lib.cell_of_heap N.out.bx 1
          have f2 : V4.cell? ⟨p, 2, none⟩ = some (.int .i64 0) := Lib.cell_of_heap N.out.bx 2
          have f3 : V4.cell? ⟨p, 3, none⟩ = some (.string ⟨#[]⟩) := Lib.cell_of_heap N.out.bx 3
          have g4 : V4.cell? ⟨b, 4, none⟩ = some (.int .i64 (c : Int)) := Lib.cell_of_heap N.out.rr 4
          have y4 := Lib.frozen_of_heap N.out.rr 4
          have g5 : V4.cell? ⟨b, 5, none⟩ = some (.string ⟨#[]⟩) := Lib.cell_of_heap N.out.rr 5
          have y5 := Lib.frozen_of_heap N.out.rr 5
          have g6 : V4.cell? ⟨b, 6, none⟩ = some (.bool false) := Lib.cell_of_heap N.out.rr 6
          have y6 := Lib.frozen_of_heap N.out.rr 6
          have ne := N.out.ne
          have HF := hid_of (IV.out.fr.trans (Fr.of_below N.out.bl))
          go_wp2_with fail
          go_ret2
          rw [HQ.out]
          exact ⟨rfl, by rw [HA.out]; exact N.out.rr, HF.out⟩
        · obtain ⟨V4, hV4⟩ : ∃ V4, V4 = (((w3.setCell ⟨V.heap.size, 0, none⟩ (.slice none 0 0)).setCell ⟨V.heap.size, 1, none⟩ (.int .i64 0)).setCell ⟨V.heap.size, 2, none⟩ (.int .i64 0)).setCell ⟨V.heap.size, 3, none⟩ (.string ⟨#[]⟩) := ⟨_, rfl⟩
          obtain ⟨p, hp⟩ : ∃ p, p = V.heap.size := ⟨_, rfl⟩
          have N : Hid (Nb b L s c V p V4 #[.slice none 0 0, .int .i64 0, .int .i64 0, .string ⟨#[]⟩]) := by rw [hV4, hp]; exact nb_a IV.out.rr B3.out HB3.out
          rw [← hV4, ← hp]
          clear k0 k1 k2 k3 z0 z1 z2 z3 s0 s1 s2 s3 s4 m0 m1 m2 m3 m4 n0 n1 n2 n3 n4 i0 i1 i2 i3 i4 hb3 hV4 hp
          have f0 : V4.cell? ⟨p, 0, none⟩ = some (.slice none 0 0) := Lib.cell_of_heap N.out.bx 0
          have f1 : V4.cell? ⟨p, 1, none⟩ = some (.int .i64 0) := Lib.cell_of_heap N.out.bx 1
          have f2 : V4.cell? ⟨p, 2, none⟩ = some (.int .i64 0) := Lib.cell_of_heap N.out.bx 2
          have f3 : V4.cell? ⟨p, 3, none⟩ = some (.string ⟨#[]⟩) := Lib.cell_of_heap N.out.bx 3
          have g4 : V4.cell? ⟨b, 4, none⟩ = some (.int .i64 (c : Int)) := Lib.cell_of_heap N.out.rr 4
          have y4 := Lib.frozen_of_heap N.out.rr 4
          have g5 : V4.cell? ⟨b, 5, none⟩ = some (.string ⟨#[]⟩) := Lib.cell_of_heap N.out.rr 5
          have y5 := Lib.frozen_of_heap N.out.rr 5
          have g6 : V4.cell? ⟨b, 6, none⟩ = some (.bool false) := Lib.cell_of_heap N.out.rr 6
          have y6 := Lib.frozen_of_heap N.out.rr 6
          have ne := N.out.ne
          have HF := hid_of (IV.out.fr.trans (Fr.of_below N.out.bl))
          go_wp2_with fail
          go_ret2
          rw [HQ.out]
          exact ⟨rfl, by rw [HA.out]; exact N.out.rr, HF.out⟩
      | fault x =>
        rw [ht] at HT
        unfold thE at HT
        dsimp only at HT
        have HQ : Hid (nextS L ((bs s).drop a) = .fault (c - a) x) := by show _ = _; rw [IV.out.eq, next_fault ht]; simp [NR.add]
        obtain ⟨Fx, hFx⟩ : ∃ Fx, Fx = mk x := ⟨_, rfl⟩
        rw [← hFx] at HT
        have HX := hid_of hFx
        clear ht hFx
        have n0 := World.new_ne V _ i0
        have n1 := World.new_ne V _ i1
        have n2 := World.new_ne V _ i2
        have n3 := World.new_ne V _ i3
        have n4 := World.new_ne V _ i4
        go_region_held3 (fun W => W.cell? ⟨b, 0, none⟩ = some (.int .i64 L.bulk) ∧ W.cell? ⟨b, 1, none⟩ = some (.int .i64 L.args) ∧ W.cell? ⟨b, 2, none⟩ = some (.int .i64 L.line) ∧ W.cell? ⟨b, 3, none⟩ = some (.string s) ∧ W.cell? ⟨b, 4, none⟩ = some (.int .i64 (c : Int))) (first | exact ⟨i0, i1, i2, i3, i4⟩ | exact ⟨s0, s1, s2, s3, s4⟩ | go_keep) (first | (go_at_call 43; refine Calls.mono (HT.out _ ?_) ?_; (first | exact h8v | (simp; omega)); rintro e w3 ⟨rfl, b3⟩; (first | (obtain ⟨hb3, bb3⟩ := box_a b3; have B3 := hid_of bb3; have HB3 := hid_of hb3; clear bb3; have k0 : w3.cell? ⟨V.heap.size, 0, none⟩ = some (.slice none 0 0) := Lib.cell_of_heap hb3 0; have k1 : w3.cell? ⟨V.heap.size, 1, none⟩ = some (.int .i64 0) := Lib.cell_of_heap hb3 1; have k2 : w3.cell? ⟨V.heap.size, 2, none⟩ = some (.int .i64 0) := Lib.cell_of_heap hb3 2; have k3 : w3.cell? ⟨V.heap.size, 3, none⟩ = some (.string ⟨#[]⟩) := Lib.cell_of_heap hb3 3; have z0 := Lib.frozen_of_heap hb3 0; have z1 := Lib.frozen_of_heap hb3 1; have z2 := Lib.frozen_of_heap hb3 2; have z3 := Lib.frozen_of_heap hb3 3; have hr3 : RR b L s c ⟨#[]⟩ false w3 := (b3.block b (by have := lt_of IV.out.rr; simp; omega)).trans ((Below.heap_alloc _ _ _ (lt_of IV.out.rr)).trans IV.out.rr); have s0 : w3.cell? ⟨b, 0, none⟩ = some (.int .i64 L.bulk) := Lib.cell_of_heap hr3 0; have s1 : w3.cell? ⟨b, 1, none⟩ = some (.int .i64 L.args) := Lib.cell_of_heap hr3 1; have s2 : w3.cell? ⟨b, 2, none⟩ = some (.int .i64 L.line) := Lib.cell_of_heap hr3 2; have s3 : w3.cell? ⟨b, 3, none⟩ = some (.string s) := Lib.cell_of_heap hr3 3; have s4 : w3.cell? ⟨b, 4, none⟩ = some (.int .i64 (c : Int)) := Lib.cell_of_heap hr3 4; have m0 := World.new_ne w3 _ s0; have m1 := World.new_ne w3 _ s1; have m2 := World.new_ne w3 _ s2; have m3 := World.new_ne w3 _ s3; have m4 := World.new_ne w3 _ s4; clear b3 hr3) | (obtain ⟨hb3, bb3⟩ := box_b b3; have B3 := hid_of bb3; clear bb3; have k0 : (w3.alloc o79).cell? ⟨w3.heap.size, 0, none⟩ = some (.slice none 0 0) := Lib.cell_of_heap hb3 0; have k1 : (w3.alloc o79).cell? ⟨w3.heap.size, 1, none⟩ = some (.int .i64 0) := Lib.cell_of_heap hb3 1; have k2 : (w3.alloc o79).cell? ⟨w3.heap.size, 2, none⟩ = some (.int .i64 0) := Lib.cell_of_heap hb3 2; have k3 : (w3.alloc o79).cell? ⟨w3.heap.size, 3, none⟩ = some (.string ⟨#[]⟩) := Lib.cell_of_heap hb3 3; have z0 := Lib.frozen_of_heap hb3 0; have z1 := Lib.frozen_of_heap hb3 1; have z2 := Lib.frozen_of_heap hb3 2; have z3 := Lib.frozen_of_heap hb3 3; have hr3 : RR b L s c ⟨#[]⟩ false w3 := (b3.block b (lt_of IV.out.rr)).trans IV.out.rr; have s0 : w3.cell? ⟨b, 0, none⟩ = some (.int .i64 L.bulk) := Lib.cell_of_heap hr3 0; have s1 : w3.cell? ⟨b, 1, none⟩ = some (.int .i64 L.args) := Lib.cell_of_heap hr3 1; have s2 : w3.cell? ⟨b, 2, none⟩ = some (.int .i64 L.line) := Lib.cell_of_heap hr3 2; have s3 : w3.cell? ⟨b, 3, none⟩ = some (.string s) := Lib.cell_of_heap hr3 3; have s4 : w3.cell? ⟨b, 4, none⟩ = some (.int .i64 (c : Int)) := Lib.cell_of_heap hr3 4; have m0 := World.new_ne w3 _ s0; have m1 := World.new_ne w3 _ s1; have m2 := World.new_ne w3 _ s2; have m3 := World.new_ne w3 _ s3; have m4 := World.new_ne w3 _ s4; clear b3 hr3))))
        · obtain ⟨V4, hV4⟩ : ∃ V4, V4 = w3.alloc (.cells #[.slice none 0 0, .int .i64 0, .int .i64 2, .string Fx] 79) := ⟨_, rfl⟩
          obtain ⟨p, hp⟩ : ∃ p, p = w3.heap.size := ⟨_, rfl⟩
          have N : Hid (Nb b L s c V p V4 #[.slice none 0 0, .int .i64 0, .int .i64 2, .string Fx]) := by rw [hV4, hp]; exact nb_b IV.out.rr B3.out
          rw [← hV4, ← hp]
          clear k0 k1 k2 k3 z0 z1 z2 z3 s0 s1 s2 s3 s4 m0 m1 m2 m3 m4 n0 n1 n2 n3 n4 i0 i1 i2 i3 i4 hb3 hV4 hp
          have f0 : V4.cell? ⟨p, 0, none⟩ = some (.slice none 0 0) := Lib.cell_of_heap N.out.bx 0
          have f1 : V4.cell? ⟨p, 1, none⟩ = some (.int .i64 0) := Lib.cell_of_heap N.out.bx 1
          have f2 : V4.cell? ⟨p, 2, none⟩ = some (.int .i64 2) := Lib.cell_of_heap N.out.bx 2
          have f3 : V4.cell? ⟨p, 3, none⟩ = some (.string Fx) := Lib.cell_of_heap N.out.bx 3
          have g4 : V4.cell? ⟨b, 4, none⟩ = some (.int .i64 (c : Int)) := Lib.cell_of_heap N.out.rr 4
          have y4 := Lib.frozen_of_heap N.out.rr 4
          have g5 : V4.cell? ⟨b, 5, none⟩ = some (.string ⟨#[]⟩) := Lib.cell_of_heap N.out.rr 5
          have y5 := Lib.frozen_of_heap N.out.rr 5
          have g6 : V4.cell? ⟨b, 6, none⟩ = some (.bool false) := Lib.cell_of_heap N.out.rr 6
          have y6 := Lib.frozen_of_heap N.out.rr 6
          have ne := N.out.ne
          have HF := hid_of (IV.out.fr.trans (Fr.of_below N.out.bl))
          go_wp2_with fail
          go_ret2
          rw [HQ.out]
          exact ⟨rfl, by rw [HA.out, ← HX.out]; exact rr_end N.out.rr, (HF.out.one _).one _⟩
        · obtain ⟨V4, hV4⟩ : ∃ V4, V4 = (((w3.setCell ⟨V.heap.size, 0, none⟩ (.slice none 0 0)).setCell ⟨V.heap.size, 1, none⟩ (.int .i64 0)).setCell ⟨V.heap.size, 2, none⟩ (.int .i64 2)).setCell ⟨V.heap.size, 3, none⟩ (.string Fx) := ⟨_, rfl⟩
          obtain ⟨p, hp⟩ : ∃ p, p = V.heap.size := ⟨_, rfl⟩
          have N : Hid (Nb b L s c V p V4 #[.slice none 0 0, .int .i64 0, .int .i64 2, .string Fx]) := by rw [hV4, hp]; exact nb_a IV.out.rr B3.out HB3.out
          rw [← hV4, ← hp]
          clear k0 k1 k2 k3 z0 z1 z2 z3 s0 s1 s2 s3 s4 m0 m1 m2 m3 m4 n0 n1 n2 n3 n4 i0 i1 i2 i3 i4 hb3 hV4 hp
          have f0 : V4.cell? ⟨p, 0, none⟩ = some (.slice none 0 0) := Lib.cell_of_heap N.out.bx 0
          have f1 : V4.cell? ⟨p, 1, none⟩ = some (.int .i64 0) := Lib.cell_of_heap N.out.bx 1
          have f2 : V4.cell? ⟨p, 2, none⟩ = some (.int .i64 2) := Lib.cell_of_heap N.out.bx 2
          have f3 : V4.cell? ⟨p, 3, none⟩ = some (.string Fx) := Lib.cell_of_heap N.out.bx 3
          have g4 : V4.cell? ⟨b, 4, none⟩ = some (.int .i64 (c : Int)) := Lib.cell_of_heap N.out.rr 4
          have y4 := Lib.frozen_of_heap N.out.rr 4
          have g5 : V4.cell? ⟨b, 5, none⟩ = some (.string ⟨#[]⟩) := Lib.cell_of_heap N.out.rr 5
          have y5 := Lib.frozen_of_heap N.out.rr 5
          have g6 : V4.cell? ⟨b, 6, none⟩ = some (.bool false) := Lib.cell_of_heap N.out.rr 6
          have y6 := Lib.frozen_of_heap N.out.rr 6
          have ne := N.out.ne
          have HF := hid_of (IV.out.fr.trans (Fr.of_below N.out.bl))
          go_wp2_with fail
          go_ret2
          rw [HQ.out]
          exact ⟨rfl, by rw [HA.out, ← HX.out]; exact rr_end N.out.rr, (HF.out.one _).one _⟩
      | done n ws =>
        rw [ht] at HT
        unfold thE at HT
        dsimp only at HT
        obtain ⟨t1, t2, -⟩ := thing_done ht []
        rw [List.length_drop, hsl] at t2
        obtain ⟨d, hd⟩ : ∃ d, d = c + n := ⟨_, rfl⟩
        rw [← hd] at HT
        have hds : d ≤ s.size := by omega
        have HD : Hid (a + (n + (c - a)) = d ∧ a + (c - a + n) = d) := ⟨by omega, by omega⟩
        obtain ⟨g', rfl⟩ : ∃ g', gk = g' + 1 := ⟨gk - 1, by omega⟩
        have hdg : s.size ≤ d + g' := by omega
        by_cases hw : ws = []
        · subst hw
          have HI : Hid (nextS L ((bs s).drop a) = (nextS L ((bs s).drop d)).add (d - a)) := by
            show _ = _
            rw [IV.out.eq, next_pass ht, nr_add, List.drop_drop, ← hd]
            congr 1
            omega
          have HAD : Hid (a ≤ d) := by show _ ≤ _; omega
          clear ht hd t1 t2
          have n0 := World.new_ne V _ i0
          have n1 := World.new_ne V _ i1
          have n2 := World.new_ne V _ i2
          have n3 := World.new_ne V _ i3
          have n4 := World.new_ne V _ i4
          go_region_held3 (fun W => W.cell? ⟨b, 0, none⟩ = some (.int .i64 L.bulk) ∧ W.cell? ⟨b, 1, none⟩ = some (.int .i64 L.args) ∧ W.cell? ⟨b, 2, none⟩ = some (.int .i64 L.line) ∧ W.cell? ⟨b, 3, none⟩ = some (.string s) ∧ W.cell? ⟨b, 4, none⟩ = some (.int .i64 (c : Int))) (first | exact ⟨i0, i1, i2, i3, i4⟩ | exact ⟨s0, s1, s2, s3, s4⟩ | go_keep) (first | (go_at_call 43; refine Calls.mono (HT.out _ ?_) ?_; (first | exact h8v | (simp; omega)); rintro e w3 ⟨v, rfl, hws, how, b3⟩; obtain ⟨a1, c1, hv⟩ := ws_shape hws; subst hv; have HWS := hid_of (And.intro hws how); clear hws how; (first | (obtain ⟨hb3, bb3⟩ := box_a b3; have B3 := hid_of bb3; have HB3 := hid_of hb3; clear bb3; have k0 : w3.cell? ⟨V.heap.size, 0, none⟩ = some (.slice none 0 0) := Lib.cell_of_heap hb3 0; have k1 : w3.cell? ⟨V.heap.size, 1, none⟩ = some (.int .i64 0) := Lib.cell_of_heap hb3 1; have k2 : w3.cell? ⟨V.heap.size, 2, none⟩ = some (.int .i64 0) := Lib.cell_of_heap hb3 2; have k3 : w3.cell? ⟨V.heap.size, 3, none⟩ = some (.string ⟨#[]⟩) := Lib.cell_of_heap hb3 3; have z0 := Lib.frozen_of_heap hb3 0; have z1 := Lib.frozen_of_heap hb3 1; have z2 := Lib.frozen_of_heap hb3 2; have z3 := Lib.frozen_of_heap hb3 3; have hr3 : RR b L s c ⟨#[]⟩ false w3 := (b3.block b (by have := lt_of IV.out.rr; simp; omega)).trans ((Below.heap_alloc _ _ _ (lt_of IV.out.rr)).trans IV.out.rr); have s0 : w3.cell? ⟨b, 0, none⟩ = some (.int .i64 L.bulk) := Lib.cell_of_heap hr3 0; have s1 : w3.cell? ⟨b, 1, none⟩ = some (.int .i64 L.args) := Lib.cell_of_heap hr3 1; have s2 : w3.cell? ⟨b, 2, none⟩ = some (.int .i64 L.line) := Lib.cell_of_heap hr3 2; have s3 : w3.cell? ⟨b, 3, none⟩ = some (.string s) := Lib.cell_of_heap hr3 3; have s4 : w3.cell? ⟨b, 4, none⟩ = some (.int .i64 (c : Int)) := Lib.cell_of_heap hr3 4; have m0 := World.new_ne w3 _ s0; have m1 := World.new_ne w3 _ s1; have m2 := World.new_ne w3 _ s2; have m3 := World.new_ne w3 _ s3; have m4 := World.new_ne w3 _ s4; clear b3 hr3) | (obtain ⟨hb3, bb3⟩ := box_b b3; have B3 := hid_of bb3; clear bb3; have k0 : (w3.alloc o79).cell? ⟨w3.heap.size, 0, none⟩ = some (.slice none 0 0) := Lib.cell_of_heap hb3 0; have k1 : (w3.alloc o79).cell? ⟨w3.heap.size, 1, none⟩ = some (.int .i64 0) := Lib.cell_of_heap hb3 1; have k2 : (w3.alloc o79).cell? ⟨w3.heap.size, 2, none⟩ = some (.int .i64 0) := Lib.cell_of_heap hb3 2; have k3 : (w3.alloc o79).cell? ⟨w3.heap.size, 3, none⟩ = some (.string ⟨#[]⟩) := Lib.cell_of_heap hb3 3; have z0 := Lib.frozen_of_heap hb3 0; have z1 := Lib.frozen_of_heap hb3 1; have z2 := Lib.frozen_of_heap hb3 2; have z3 := Lib.frozen_of_heap hb3 3; have hr3 : RR b L s c ⟨#[]⟩ false w3 := (b3.block b (lt_of IV.out.rr)).trans IV.out.rr; have s0 : w3.cell? ⟨b, 0, none⟩ = some (.int .i64 L.bulk) := Lib.cell_of_heap hr3 0; have s1 : w3.cell? ⟨b, 1, none⟩ = some (.int .i64 L.args) := Lib.cell_of_heap hr3 1; have s2 : w3.cell? ⟨b, 2, none⟩ = some (.int .i64 L.line) := Lib.cell_of_heap hr3 2; have s3 : w3.cell? ⟨b, 3, none⟩ = some (.string s) := Lib.cell_of_heap hr3 3; have s4 : w3.cell? ⟨b, 4, none⟩ = some (.int .i64 (c : Int)) := Lib.cell_of_heap hr3 4; have m0 := World.new_ne w3 _ s0; have m1 := World.new_ne w3 _ s1; have m2 := World.new_ne w3 _ s2; have m3 := World.new_ne w3 _ s3; have m4 := World.new_ne w3 _ s4; clear b3 hr3))))
          · obtain ⟨V4, hV4⟩ : ∃ V4, V4 = w3.alloc (.cells #[.slice a1 0 c1, .int .i64 (d : Int), .int .i64 1, .string ⟨#[]⟩] 79) := ⟨_, rfl⟩
            obtain ⟨p, hp⟩ : ∃ p, p = w3.heap.size := ⟨_, rfl⟩
            have N : Hid (Nb b L s c V p V4 #[.slice a1 0 c1, .int .i64 (d : Int), .int .i64 1, .string ⟨#[]⟩]) := by rw [hV4, hp]; exact nb_b IV.out.rr B3.out
            rw [← hV4, ← hp]
            clear k0 k1 k2 k3 z0 z1 z2 z3 s0 s1 s2 s3 s4 m0 m1 m2 m3 m4 n0 n1 n2 n3 n4 i0 i1 i2 i3 i4 hb3 hV4 hp
            have f0 : V4.cell? ⟨p, 0, none⟩ = some (.slice a1 0 c1) := Lib.cell_of_heap N.out.bx 0
            have f1 : V4.cell? ⟨p, 1, none⟩ = some (.int .i64 (d : Int)) := Lib.cell_of_heap N.out.bx 1
            have f2 : V4.cell? ⟨p, 2, none⟩ = some (.int .i64 1) := Lib.cell_of_heap N.out.bx 2
            have f3 : V4.cell? ⟨p, 3, none⟩ = some (.string ⟨#[]⟩) := Lib.cell_of_heap N.out.bx 3
            have g4 : V4.cell? ⟨b, 4, none⟩ = some (.int .i64 (c : Int)) := Lib.cell_of_heap N.out.rr 4
            have y4 := Lib.frozen_of_heap N.out.rr 4
            have g5 : V4.cell? ⟨b, 5, none⟩ = some (.string ⟨#[]⟩) := Lib.cell_of_heap N.out.rr 5
            have y5 := Lib.frozen_of_heap N.out.rr 5
            have g6 : V4.cell? ⟨b, 6, none⟩ = some (.bool false) := Lib.cell_of_heap N.out.rr 6
            have y6 := Lib.frozen_of_heap N.out.rr 6
            have ne := N.out.ne
            have HF := hid_of (IV.out.fr.trans (Fr.of_below N.out.bl))
            go_wp2_with fail
            go_roundg g'
            case measure => omega
            case rel => exact ⟨d, hdg, ⟨HI.out, HAD.out, hds, rr_at N.out.rr, HF.out.one _⟩⟩
          · obtain ⟨V4, hV4⟩ : ∃ V4, V4 = (((w3.setCell ⟨V.heap.size, 0, none⟩ (.slice a1 0 c1)).setCell ⟨V.heap.size, 1, none⟩ (.int .i64 (d : Int))).setCell ⟨V.heap.size, 2, none⟩ (.int .i64 1)).setCell ⟨V.heap.size, 3, none⟩ (.string ⟨#[]⟩) := ⟨_, rfl⟩
            obtain ⟨p, hp⟩ : ∃ p, p = V.heap.size := ⟨_, rfl⟩
            have N : Hid (Nb b L s c V p V4 #[.slice a1 0 c1, .int .i64 (d : Int), .int .i64 1, .string ⟨#[]⟩]) := by rw [hV4, hp]; exact nb_a IV.out.rr B3.out HB3.out
            rw [← hV4, ← hp]
            clear k0 k1 k2 k3 z0 z1 z2 z3 s0 s1 s2 s3 s4 m0 m1 m2 m3 m4 n0 n1 n2 n3 n4 i0 i1 i2 i3 i4 hb3 hV4 hp
            have f0 : V4.cell? ⟨p, 0, none⟩ = some (.slice a1 0 c1) := Lib.cell_of_heap N.out.bx 0
            have f1 : V4.cell? ⟨p, 1, none⟩ = some (.int .i64 (d : Int)) := Lib.cell_of_heap N.out.bx 1
            have f2 : V4.cell? ⟨p, 2, none⟩ = some (.int .i64 1) := Lib.cell_of_heap N.out.bx 2
            have f3 : V4.cell? ⟨p, 3, none⟩ = some (.string ⟨#[]⟩) := Lib.cell_of_heap N.out.bx 3
            have g4 : V4.cell? ⟨b, 4, none⟩ = some (.int .i64 (c : Int)) := Lib.cell_of_heap N.out.rr 4
            have y4 := Lib.frozen_of_heap N.out.rr 4
            have g5 : V4.cell? ⟨b, 5, none⟩ = some (.string ⟨#[]⟩) := Lib.cell_of_heap N.out.rr 5
            have y5 := Lib.frozen_of_heap N.out.rr 5
            have g6 : V4.cell? ⟨b, 6, none⟩ = some (.bool false) := Lib.cell_of_heap N.out.rr 6
            have y6 := Lib.frozen_of_heap N.out.rr 6
            have ne := N.out.ne
            have HF := hid_of (IV.out.fr.trans (Fr.of_below N.out.bl))
            go_wp2_with fail
            go_roundg g'
            case measure => omega
            case rel => exact ⟨d, hdg, ⟨HI.out, HAD.out, hds, rr_at N.out.rr, HF.out.one _⟩⟩
        · have HQ : Hid (nextS L ((bs s).drop a) = .one (c - a + n) ws) := by show _ = _; rw [IV.out.eq, next_one ht hw]; simp [NR.add]
          have hwp : 0 < ws.length := List.length_pos_iff.2 hw
          have hwi : (0 : Int) < (ws.length : Int) := by omega
          clear ht hd t1 t2
          have n0 := World.new_ne V _ i0
          have n1 := World.new_ne V _ i1
          have n2 := World.new_ne V _ i2
          have n3 := World.new_ne V _ i3
          have n4 := World.new_ne V _ i4
          go_region_held3 (fun W => W.cell? ⟨b, 0, none⟩ = some (.int .i64 L.bulk) ∧ W.cell? ⟨b, 1, none⟩ = some (.int .i64 L.args) ∧ W.cell? ⟨b, 2, none⟩ = some (.int .i64 L.line) ∧ W.cell? ⟨b, 3, none⟩ = some (.string s) ∧ W.cell? ⟨b, 4, none⟩ = some (.int .i64 (c : Int))) (first | exact ⟨i0, i1, i2, i3, i4⟩ | exact ⟨s0, s1, s2, s3, s4⟩ | go_keep) (first | (go_at_call 43; refine Calls.mono (HT.out _ ?_) ?_; (first | exact h8v | (simp; omega)); rintro e w3 ⟨v, rfl, hws, how, b3⟩; obtain ⟨a1, c1, hv⟩ := ws_shape hws; subst hv; have HWS := hid_of (And.intro hws how); clear hws how; (first | (obtain ⟨hb3, bb3⟩ := box_a b3; have B3 := hid_of bb3; have HB3 := hid_of hb3; clear bb3; have k0 : w3.cell? ⟨V.heap.size, 0, none⟩ = some (.slice none 0 0) := Lib.cell_of_heap hb3 0; have k1 : w3.cell? ⟨V.heap.size, 1, none⟩ = some (.int .i64 0) := Lib.cell_of_heap hb3 1; have k2 : w3.cell? ⟨V.heap.size, 2, none⟩ = some (.int .i64 0) := Lib.cell_of_heap hb3 2; have k3 : w3.cell? ⟨V.heap.size, 3, none⟩ = some (.string ⟨#[]⟩) := Lib.cell_of_heap hb3 3; have z0 := Lib.frozen_of_heap hb3 0; have z1 := Lib.frozen_of_heap hb3 1; have z2 := Lib.frozen_of_heap hb3 2; have z3 := Lib.frozen_of_heap hb3 3; have hr3 : RR b L s c ⟨#[]⟩ false w3 := (b3.block b (by have := lt_of IV.out.rr; simp; omega)).trans ((Below.heap_alloc _ _ _ (lt_of IV.out.rr)).trans IV.out.rr); have s0 : w3.cell? ⟨b, 0, none⟩ = some (.int .i64 L.bulk) := Lib.cell_of_heap hr3 0; have s1 : w3.cell? ⟨b, 1, none⟩ = some (.int .i64 L.args) := Lib.cell_of_heap hr3 1; have s2 : w3.cell? ⟨b, 2, none⟩ = some (.int .i64 L.line) := Lib.cell_of_heap hr3 2; have s3 : w3.cell? ⟨b, 3, none⟩ = some (.string s) := Lib.cell_of_heap hr3 3; have s4 : w3.cell? ⟨b, 4, none⟩ = some (.int .i64 (c : Int)) := Lib.cell_of_heap hr3 4; have m0 := World.new_ne w3 _ s0; have m1 := World.new_ne w3 _ s1; have m2 := World.new_ne w3 _ s2; have m3 := World.new_ne w3 _ s3; have m4 := World.new_ne w3 _ s4; clear b3 hr3) | (obtain ⟨hb3, bb3⟩ := box_b b3; have B3 := hid_of bb3; clear bb3; have k0 : (w3.alloc o79).cell? ⟨w3.heap.size, 0, none⟩ = some (.slice none 0 0) := Lib.cell_of_heap hb3 0; have k1 : (w3.alloc o79).cell? ⟨w3.heap.size, 1, none⟩ = some (.int .i64 0) := Lib.cell_of_heap hb3 1; have k2 : (w3.alloc o79).cell? ⟨w3.heap.size, 2, none⟩ = some (.int .i64 0) := Lib.cell_of_heap hb3 2; have k3 : (w3.alloc o79).cell? ⟨w3.heap.size, 3, none⟩ = some (.string ⟨#[]⟩) := Lib.cell_of_heap hb3 3; have z0 := Lib.frozen_of_heap hb3 0; have z1 := Lib.frozen_of_heap hb3 1; have z2 := Lib.frozen_of_heap hb3 2; have z3 := Lib.frozen_of_heap hb3 3; have hr3 : RR b L s c ⟨#[]⟩ false w3 := (b3.block b (lt_of IV.out.rr)).trans IV.out.rr; have s0 : w3.cell? ⟨b, 0, none⟩ = some (.int .i64 L.bulk) := Lib.cell_of_heap hr3 0; have s1 : w3.cell? ⟨b, 1, none⟩ = some (.int .i64 L.args) := Lib.cell_of_heap hr3 1; have s2 : w3.cell? ⟨b, 2, none⟩ = some (.int .i64 L.line) := Lib.cell_of_heap hr3 2; have s3 : w3.cell? ⟨b, 3, none⟩ = some (.string s) := Lib.cell_of_heap hr3 3; have s4 : w3.cell? ⟨b, 4, none⟩ = some (.int .i64 (c : Int)) := Lib.cell_of_heap hr3 4; have m0 := World.new_ne w3 _ s0; have m1 := World.new_ne w3 _ s1; have m2 := World.new_ne w3 _ s2; have m3 := World.new_ne w3 _ s3; have m4 := World.new_ne w3 _ s4; clear b3 hr3))))
          · obtain ⟨V4, hV4⟩ : ∃ V4, V4 = w3.alloc (.cells #[.slice a1 ws.length c1, .int .i64 (d : Int), .int .i64 1, .string ⟨#[]⟩] 79) := ⟨_, rfl⟩
            obtain ⟨p, hp⟩ : ∃ p, p = w3.heap.size := ⟨_, rfl⟩
            have N : Hid (Nb b L s c V p V4 #[.slice a1 ws.length c1, .int .i64 (d : Int), .int .i64 1, .string ⟨#[]⟩]) := by rw [hV4, hp]; exact nb_b IV.out.rr B3.out
            have HW4 : Hid (WS V4 (.slice a1 ws.length c1) ws) := by rw [hV4]; exact ws_b HWS.out.1
            rw [← hV4, ← hp]
            clear k0 k1 k2 k3 z0 z1 z2 z3 s0 s1 s2 s3 s4 m0 m1 m2 m3 m4 n0 n1 n2 n3 n4 i0 i1 i2 i3 i4 hb3 hV4 hp
            have f0 : V4.cell? ⟨p, 0, none⟩ = some (.slice a1 ws.length c1) := Lib.cell_of_heap N.out.bx 0
            have f1 : V4.cell? ⟨p, 1, none⟩ = some (.int .i64 (d : Int)) := Lib.cell_of_heap N.out.bx 1
            have f2 : V4.cell? ⟨p, 2, none⟩ = some (.int .i64 1) := Lib.cell_of_heap N.out.bx 2
            have f3 : V4.cell? ⟨p, 3, none⟩ = some (.string ⟨#[]⟩) := Lib.cell_of_heap N.out.bx 3
            have g4 : V4.cell? ⟨b, 4, none⟩ = some (.int .i64 (c : Int)) := Lib.cell_of_heap N.out.rr 4
            have y4 := Lib.frozen_of_heap N.out.rr 4
            have g5 : V4.cell? ⟨b, 5, none⟩ = some (.string ⟨#[]⟩) := Lib.cell_of_heap N.out.rr 5
            have y5 := Lib.frozen_of_heap N.out.rr 5
            have g6 : V4.cell? ⟨b, 6, none⟩ = some (.bool false) := Lib.cell_of_heap N.out.rr 6
            have y6 := Lib.frozen_of_heap N.out.rr 6
            have ne := N.out.ne
            have HF := hid_of (IV.out.fr.trans (Fr.of_below N.out.bl))
            go_wp2_with fail
            go_ret2
            rw [HQ.out]
            exact ⟨_, rfl, ws_rr HW4.out N.out.rr, fun g e => (by first | exact Nat.le_trans IV.out.fr.size (HWS.out.2 g e) | exact Nat.le_trans IV.out.fr.size (Nat.le_trans (show V.heap.size ≤ (V.alloc o79).heap.size by simp) (HWS.out.2 g e))), by rw [HD.out.2]; exact rr_at N.out.rr, HF.out.one _⟩
          · obtain ⟨V4, hV4⟩ : ∃ V4, V4 = (((w3.setCell ⟨V.heap.size, 0, none⟩ (.slice a1 ws.length c1)).setCell ⟨V.heap.size, 1, none⟩ (.int .i64 (d : Int))).setCell ⟨V.heap.size, 2, none⟩ (.int .i64 1)).setCell ⟨V.heap.size, 3, none⟩ (.string ⟨#[]⟩) := ⟨_, rfl⟩
            obtain ⟨p, hp⟩ : ∃ p, p = V.heap.size := ⟨_, rfl⟩
            have N : Hid (Nb b L s c V p V4 #[.slice a1 ws.length c1, .int .i64 (d : Int), .int .i64 1, .string ⟨#[]⟩]) := by rw [hV4, hp]; exact nb_a IV.out.rr B3.out HB3.out
            have HW4 : Hid (WS V4 (.slice a1 ws.length c1) ws) := by rw [hV4]; exact ws_a HWS.out.1 HB3.out
            rw [← hV4, ← hp]
            clear k0 k1 k2 k3 z0 z1 z2 z3 s0 s1 s2 s3 s4 m0 m1 m2 m3 m4 n0 n1 n2 n3 n4 i0 i1 i2 i3 i4 hb3 hV4 hp
            have f0 : V4.cell? ⟨p, 0, none⟩ = some (.slice a1 ws.length c1) := Lib.cell_of_heap N.out.bx 0
            have f1 : V4.cell? ⟨p, 1, none⟩ = some (.int .i64 (d : Int)) := Lib.cell_of_heap N.out.bx 1
            have f2 : V4.cell? ⟨p, 2, none⟩ = some (.int .i64 1) := Lib.cell_of_heap N.out.bx 2
            have f3 : V4.cell? ⟨p, 3, none⟩ = some (.string ⟨#[]⟩) := Lib.cell_of_heap N.out.bx 3
            have g4 : V4.cell? ⟨b, 4, none⟩ = some (.int .i64 (c : Int)) := Lib.cell_of_heap N.out.rr 4
            have y4 := Lib.frozen_of_heap N.out.rr 4
            have g5 : V4.cell? ⟨b, 5, none⟩ = some (.string ⟨#[]⟩) := Lib.cell_of_heap N.out.rr 5
            have y5 := Lib.frozen_of_heap N.out.rr 5
            have g6 : V4.cell? ⟨b, 6, none⟩ = some (.bool false) := Lib.cell_of_heap N.out.rr 6
            have y6 := Lib.frozen_of_heap N.out.rr 6
            have ne := N.out.ne
            have HF := hid_of (IV.out.fr.trans (Fr.of_below N.out.bl))
            go_wp2_with fail
            go_ret2
            rw [HQ.out]
            exact ⟨_, rfl, ws_rr HW4.out N.out.rr, fun g e => (by first | exact Nat.le_trans IV.out.fr.size (HWS.out.2 g e) | exact Nat.le_trans IV.out.fr.size (Nat.le_trans (show V.heap.size ≤ (V.alloc o79).heap.size by simp) (HWS.out.2 g e))), by rw [HD.out.2]; exact rr_at N.out.rr, HF.out.one _⟩
    · obtain rfl : c = s.size := by omega
      have q1 : decide ((s.size : Int) < (s.size : Int)) = false := decide_eq_false (by omega)
      have q2 : decide (s.size < s.size) = false := decide_eq_false (by omega)
      have HQ : Hid (nextS L ((bs s).drop a) = .more (s.size - a)) := by show _ = _; rw [I.out.eq, List.drop_of_length_le (by omega), next_nil_more]; simp [NR.add]
      have HA : Hid (a + (s.size - a) = s.size) := by show _ = _; omega
      go_wp2_with fail
      go_quiet (fail)
      go_wp2_with fail
      go_ret2
      rw [HQ.out]
      exact ⟨rfl, by rw [HA.out]; exact I.out.rr, I.out.fr.drewN _⟩
end Go.Proofs.YtfkilbhhpipjbaaGreatDoor.RefNext
