/- bulk: its body. -/
import Derived.Test.YtfkilbhhpipjbaaGreatDoorBulk
namespace Go.Proofs.YtfkilbhhpipjbaaGreatDoor.Bulk2
open Go.RowKit
open Go.Lib (decDigits)
open Go.Proofs.YtfkilbhhpipjbaaGreatDoor.TextMath
open Go.Proofs.YtfkilbhhpipjbaaGreatDoor.ReqMath
open Go.Proofs.YtfkilbhhpipjbaaGreatDoor.Base
open Go.Proofs.YtfkilbhhpipjbaaGreatDoor.Line
open Go.Proofs.YtfkilbhhpipjbaaGreatDoor.Small
open Go.Proofs.YtfkilbhhpipjbaaGreatDoor.Append
open Go.Proofs.YtfkilbhhpipjbaaGreatDoor.Bulk
set_option linter.unusedVariables false

/- what is known behind the count: the body, its end, and the texts that are held against each other -/
structure Mid (b : Nat) (L : Lim) (a : Option Addr) (cap : Nat) (k : Nat) (wv : Value) (wanted read used : Nat) (ft : ByteArray) (t : ByteArray) (w : World) (i kk : Nat) : Prop where
  line : ∃ X D : ByteArray, Hid (Calls Tryz.prog 81 #[.pointer (some ⟨b, 0, none⟩)] w fun e w' => e = .returned (.tuple #[.string X, .int .i64 ((i : Int) + 1)]) ∧ ∃ n, w' = w.drewN n) ∧
    (∀ w, (Instr.slice 9 (.string X) (some (.int .i64 1)) none none).run Tryz.prog w = .ok (.string D) w) ∧
    Hid (∀ q, Calls Tryz.prog 83 #[.string D, .int .i64 L.bulk, .string ⟨wLength.toArray⟩] (w.drewN q) fun e w' => e = .returned (.int .i64 (kk : Int)) ∧ Below (w.drewN q).heap.size (w.drewN q) w')
  first : ∃ a1 c1, (∀ W, (Instr.slice 61 (.slice a t.size cap) none (some (.int .i64 1)) none).run Tryz.prog W = .ok (.slice a1 1 c1) W) ∧ (convert 61 9 (.slice a1 1 c1)).run Tryz.prog w = .ok (.string ⟨#[36]⟩) w
theorem mid_of (b : Nat) (L : Lim) (a : Option Addr) (cap : Nat) (k : Nat) (wv : Value) (wanted read used : Nat) (ft : ByteArray) (t : ByteArray) (w : World) (h : RB b L (.slice a t.size cap) k wv wanted read used ft w) (hs : BySl w (.slice a t.size cap) t) (hk : k ≤ t.size) (hn : nl ((bs t).take k) = none) (hz : t.size ≤ 67108864) (hL : L.line ≤ 65536) (hLb : L.bulk ≤ 1048576) (hh : Has w)
    (r x : List UInt8) (n kk : Nat) (ht : bs t = 36 :: r) (hl : lineS L.line (bs t) = .got x n) (hc : countS L.bulk x.tail = some kk) :
    ∃ i, n = i + 1 ∧ i < t.size ∧ kk ≤ L.bulk ∧ Mid b L a cap k wv wanted read used ft t w i kk := by
  have h1 : 1 ≤ t.size := by rw [← len_bs, ht]; simp
  obtain ⟨i, d, hi, him, hni, hxd, hxt, hit⟩ := head_got ht hl
  rw [len_bs] at hit
  have H1 := hid_of (line_got b L _ k wv wanted read used ft t (mk x) i w h hs hk hn hz hL hi him (by rw [bs_mk]; exact hxt))
  subst hxd
  have hdl : d.length ≤ 67108864 := by
    have := congrArg List.length hxt
    have h2 := Lib.trimSuffix_le ((bs t).take i) [13]
    rw [← this, List.length_take, len_bs, List.length_cons] at h2
    omega
  have hsl : ∀ w, (Instr.slice 9 (.string (mk (36 :: d))) (some (.int .i64 1)) none none).run Tryz.prog w = .ok (.string (mk d)) w := by
    intro w
    rw [run_slice_string_from_if (P := Tryz.prog) (w := w) 9 (mk (36 :: d)) .i64 1 Tryz.underlying9, if_pos ⟨by omega, by rw [mk_size, List.length_cons]; omega⟩]
    congr 2
    apply of_bs
    rw [show ((1 : Int).toNat) = 1 from rfl, ext_from]
    rfl
  obtain ⟨hd, hkk⟩ := count_some hc
  refine ⟨i, hni, hit, hkk, ⟨mk (36 :: d), mk d, H1, hsl, fun q => count_ok (mk d) L.bulk kk ⟨wLength.toArray⟩ (w.drewN q) (by rw [bs_mk]; exact hd) hkk hLb (hh.later (bdN w q)) (by rw [mk_size]; exact hdl)⟩, ?_⟩
  obtain ⟨a1, c1, hB1, _, s1⟩ := hs.to 1 1 rfl h1
  refine ⟨a1, c1, s1, ?_⟩
  have hcv := hB1.conv
  have hy : bs (t.extract 0 1) = [36] := by rw [ext_to, ht]; rfl
  have e : t.extract 0 1 = ⟨#[36]⟩ := of_bs hy
  rw [e] at hcv
  exact hcv
theorem by_from {w : World} {v : Value} {t : ByteArray} (h : BySl w v t) (n : Nat) (x : Int) (hx : x = (n : Int)) (hn : n ≤ t.size) :
    ∃ (u : ByteArray) (a : Option Addr) (c : Nat), bs u = (bs t).drop n ∧ u.size = t.size - n ∧ BySl w (.slice a u.size c) u ∧ (slBlock (.slice a u.size c) = slBlock v) ∧ ∀ W, (Instr.slice 61 v (some (.int .i64 x)) none none).run Tryz.prog W = .ok (.slice a u.size c) W := by
  obtain ⟨a, c, h1, h2, h3⟩ := h.from n x hx hn
  have hz : (t.extract n t.size).size = t.size - n := ext_size _ _ _ (Nat.le_refl _)
  rw [← hz] at h1 h2 h3
  exact ⟨_, a, c, ext_from t n, hz, h1, h2, h3⟩
theorem by_to {w : World} {v : Value} {t : ByteArray} (h : BySl w v t) (n : Nat) (x : Int) (hx : x = (n : Int)) (hn : n ≤ t.size) :
    ∃ (u : ByteArray) (a : Option Addr) (c : Nat), bs u = (bs t).take n ∧ u.size = n ∧ BySl w (.slice a u.size c) u ∧ (slBlock (.slice a u.size c) = slBlock v) ∧ ∀ W, (Instr.slice 61 v none (some (.int .i64 x)) none).run Tryz.prog W = .ok (.slice a u.size c) W := by
  obtain ⟨a, c, h1, h2, h3⟩ := h.to n x hx hn
  have hz : (t.extract 0 n).size = n := by rw [ext_size _ _ _ hn]; omega
  have h1' : BySl w (.slice a (t.extract 0 n).size c) (t.extract 0 n) := by rw [hz]; exact h1
  refine ⟨_, a, c, ext_to t n, hz, h1', ?_, ?_⟩
  · rw [hz]; exact h2
  · rw [hz]; exact h3
/- the end of a body -/
structure Tail (t : ByteArray) (i kk : Nat) (w : World) (a : Option Addr) (cap : Nat) (mm nn : Nat) (T2 T3 : ByteArray) (a2 : Option Addr) (c2 : Nat) (a3 : Option Addr) (c3 : Nat) (a4 : Option Addr) (c4 : Nat) (Y Z : ByteArray) : Prop where
  body : ∀ W, (Instr.slice 61 (.slice a t.size cap) (some (.int .i64 ((i : Int) + 1))) none none).run Tryz.prog W = .ok (.slice a2 T2.size c2) W
  min1 : min (kk : Int) (T2.size : Int) = (mm : Int)
  rest : ∀ W, (Instr.slice 61 (.slice a2 T2.size c2) (some (.int .i64 (mm : Int))) none none).run Tryz.prog W = .ok (.slice a3 T3.size c3) W
  min2 : min (T3.size : Int) 2 = (nn : Int)
  cut : ∀ W, (Instr.slice 61 (.slice a3 T3.size c3) none (some (.int .i64 (nn : Int))) none).run Tryz.prog W = .ok (.slice a4 Y.size c4) W
  conv : Hid (∀ w2, Below w.heap.size w w2 → (convert 61 9 (.slice a4 Y.size c4)).run Tryz.prog w2 = .ok (.string Y) w2)
  line : ∀ W, (Instr.slice 9 (.string ⟨#[13, 10]⟩) none (some (.int .i64 (nn : Int))) none).run Tryz.prog W = .ok (.string Z) W
theorem crlf_to (n : Nat) (hn : n ≤ 2) (w : World) : (Instr.slice 9 (.string ⟨#[13, 10]⟩) none (some (.int .i64 (n : Int))) none).run Tryz.prog w = .ok (.string (mk (([13, 10] : List UInt8).take n))) w := by
  rw [run_slice_string_to_if (P := Tryz.prog) (w := w) 9 ⟨#[13, 10]⟩ .i64 (n : Int) Tryz.underlying9, if_pos ⟨by omega, by show (n : Int) ≤ 2; omega⟩]
  congr 2
  apply of_bs
  rw [bs_mk, show ((n : Int).toNat) = n from rfl, ext_to]
  rfl
theorem tail_of (t : ByteArray) (i kk : Nat) (w : World) (a : Option Addr) (cap : Nat) (hs : BySl w (.slice a t.size cap) t) (hi : i < t.size) :
    ∃ mm nn T2 T3 a2 c2 a3 c3 a4 c4 Y Z, Tail t i kk w a cap mm nn T2 T3 a2 c2 a3 c3 a4 c4 Y Z ∧ mm = min kk (t.size - (i + 1)) ∧ T2.size = t.size - (i + 1) ∧ T3.size = T2.size - mm ∧ nn = min T3.size 2 ∧ bs T2 = (bs t).drop (i + 1) ∧ bs Y = (((bs t).drop (i + 1)).drop mm).take nn ∧ Z = mk (([13, 10] : List UInt8).take nn) ∧ BySl w (.slice a2 T2.size c2) T2 := by
  obtain ⟨T2, a2, c2, e2, z2, hB2, _, s2⟩ := by_from hs (i + 1) ((i : Int) + 1) (by omega) (by omega)
  obtain ⟨T3, a3, c3, e3, z3, hB3, _, s3⟩ := by_from hB2 (min kk T2.size) _ rfl (by omega)
  obtain ⟨Y, a4, c4, e4, z4, hB4, _, s4⟩ := by_to hB3 (min T3.size 2) _ rfl (by omega)
  refine ⟨min kk T2.size, min T3.size 2, T2, T3, a2, c2, a3, c3, a4, c4, Y, _, ⟨s2, by omega, s3, by omega, s4, fun w2 hb => (by_below hB4 hb).conv, fun W => crlf_to _ (by omega) W⟩, by omega, z2, z3, rfl, e2, by rw [e4, e3, e2], rfl, hB2⟩
set_option maxHeartbeats 2000000 in
set_option maxRecDepth 100000 in
theorem bulk_end (b : Nat) (L : Lim) (a : Option Addr) (cap : Nat) (k : Nat) (wv : Value) (wanted read used : Nat) (ft : ByteArray) (t : ByteArray) (w : World) (h : RB b L (.slice a t.size cap) k wv wanted read used ft w) (hz : t.size ≤ 67108864) (h1 : 1 ≤ t.size) (i kk : Nat) (hM : Mid b L a cap k wv wanted read used ft t w i kk)
    (mm nn : Nat) (T2 T3 : ByteArray) (a2 : Option Addr) (c2 : Nat) (a3 : Option Addr) (c3 : Nat) (a4 : Option Addr) (c4 : Nat) (Y Z : ByteArray) (hT : Tail t i kk w a cap mm nn T2 T3 a2 c2 a3 c3 a4 c4 Y Z) (hyz : (Y.toList == Z.toList) = false) :
    Calls Tryz.prog 70 #[.pointer (some ⟨b, 0, none⟩)] w fun e w' => e = gaveUp wEnd ∧ Below w.heap.size w w' := by
  obtain ⟨⟨X, D, H1, hsl, H2⟩, a1, c1, s1, hcv⟩ := hM
  obtain ⟨p1, p2, p3, p4, p5, p6, p7⟩ := hT
  have d3 : w.cell? ⟨b, 3, none⟩ = _ := h.cell 3
  have d0 : w.cell? ⟨b, 0, none⟩ = _ := h.cell 0
  have g1 : (0 : Int) < (t.size : Int) := by omega
  have H := hid_of h
  clear h
  unfold gaveUp
  go_enter Tryz.func70, Tryz.ntmps70
  go_wp2_with fail
  refine H1.out.mono ?_
  rintro e w1 ⟨rfl, q, rfl⟩
  go_wp2_with fail
  go_region_with (first | (go_at_call 83; refine (H2.out (q + 1)).mono ?_; rintro e w2 ⟨rfl, b2⟩))
  all_goals
    have B2 : Hid (Below w.heap.size w w2) := (bdN w (q + 1)).trans b2
    clear b2
    have r2 := rb_later H.out B2.out
    have f3 : w2.cell? ⟨b, 3, none⟩ = _ := r2.cell 3
    have hcv2 := fun q => p6.out (w2.drewN q) (B2.out.trans ((bdN w2 q).mono B2.out.size))
    clear r2
    go_wp2_with fail
    go_quiet (fail)
    go_wp2_with fail
    exact ⟨rfl, rfl, B2.out.trans ((bdN w2 _).mono B2.out.size)⟩
set_option maxHeartbeats 2000000 in
set_option maxRecDepth 100000 in
theorem bulk_wait (b : Nat) (L : Lim) (a : Option Addr) (cap : Nat) (k : Nat) (wv : Value) (wanted read used : Nat) (ft : ByteArray) (t : ByteArray) (w : World) (h : RB b L (.slice a t.size cap) k wv wanted read used ft w) (hz : t.size ≤ 67108864) (h1 : 1 ≤ t.size) (i kk : Nat) (hM : Mid b L a cap k wv wanted read used ft t w i kk)
    (mm nn : Nat) (T2 T3 : ByteArray) (a2 : Option Addr) (c2 : Nat) (a3 : Option Addr) (c3 : Nat) (a4 : Option Addr) (c4 : Nat) (Y Z : ByteArray) (hT : Tail t i kk w a cap mm nn T2 T3 a2 c2 a3 c3 a4 c4 Y Z) (hyz : (Y.toList == Z.toList) = true) (hnn : nn < 2) :
    Calls Tryz.prog 70 #[.pointer (some ⟨b, 0, none⟩)] w fun e w' => e = gaveUp [] ∧ Below w.heap.size w w' := by
  obtain ⟨⟨X, D, H1, hsl, H2⟩, a1, c1, s1, hcv⟩ := hM
  obtain ⟨p1, p2, p3, p4, p5, p6, p7⟩ := hT
  have d3 : w.cell? ⟨b, 3, none⟩ = _ := h.cell 3
  have d0 : w.cell? ⟨b, 0, none⟩ = _ := h.cell 0
  have g1 : (0 : Int) < (t.size : Int) := by omega
  have g2 : (nn : Int) < 2 := by omega
  have H := hid_of h
  clear h hnn
  unfold gaveUp
  go_enter Tryz.func70, Tryz.ntmps70
  go_wp2_with fail
  refine H1.out.mono ?_
  rintro e w1 ⟨rfl, q, rfl⟩
  go_wp2_with fail
  go_region_with (first | (go_at_call 83; refine (H2.out (q + 1)).mono ?_; rintro e w2 ⟨rfl, b2⟩))
  all_goals
    have B2 : Hid (Below w.heap.size w w2) := (bdN w (q + 1)).trans b2
    clear b2
    have r2 := rb_later H.out B2.out
    have f3 : w2.cell? ⟨b, 3, none⟩ = _ := r2.cell 3
    have hcv2 := fun q => p6.out (w2.drewN q) (B2.out.trans ((bdN w2 q).mono B2.out.size))
    clear r2
    go_wp2_with fail
    go_quiet (fail)
    go_wp2_with fail
    exact ⟨rfl, rfl, B2.out.trans ((bdN w2 _).mono B2.out.size)⟩
/- a slice of texts of the call's own -/
def strC (ws : List (List UInt8)) : List Value := ws.map (fun x => Value.string ⟨x.toArray⟩)
def WS (w : World) (v : Value) (ws : List (List UInt8)) : Prop := w.ownsRow 8 9 1 v ws.length (strC ws)
theorem owns_kind {w : World} {B : Nat} {e : TypeId} {v : Value} {n z : Nat} {xs : List Value} (h : w.ownsRow B e z v n xs) : ∀ g, v.ownBlock = some g → ∃ c, w.heap[g]? = some (.cells c e (0, 0)) := by
  intro g hg
  rcases h.2 with ⟨rfl, _⟩ | ⟨g', cap, cur, rfl, _, hq, _⟩
  · cases hg
  · cases hg; exact ⟨cur, hq⟩
theorem apd_form {e : TypeId} {v : Value} {n m : Nat} {xs : List Value} {v' : Value} {W w' : World} (h : Apd e v n m xs v' W w') : ∃ ao cp, v' = .slice ao (n + m) cp := by
  rcases h.1.2 with ⟨hv, hn⟩ | ⟨g, cp, cur, hv, _⟩
  · exact ⟨none, 0, by rw [hn]; exact hv⟩
  · exact ⟨_, _, hv⟩
theorem owns_below {w w2 : World} {e : TypeId} {v : Value} {n z : Nat} {xs : List Value} (h : w.ownsRow 8 e z v n xs) (hb : Below w.heap.size w w2) : w2.ownsRow 8 e z v n xs := by
  refine ⟨h.1, ?_⟩
  rcases h.2 with x | ⟨g, cp, cur, x1, x2, x3, x4⟩
  · exact Or.inl x
  · exact Or.inr ⟨g, cp, cur, x1, x2, (hb.block g (lt_of x3)).trans x3, x4⟩
theorem owns_set {w : World} {e : TypeId} {v : Value} {n z : Nat} {xs : List Value} {b i : Nat} {u : Value} (h : w.ownsRow 8 e z v n xs) (hb : v.ownBlock ≠ some b) : (w.setCell ⟨b, i, none⟩ u).ownsRow 8 e z v n xs := by
  refine ⟨h.1, ?_⟩
  rcases h.2 with x | ⟨g, cp, cur, x1, x2, x3, x4⟩
  · exact Or.inl x
  · refine Or.inr ⟨g, cp, cur, x1, x2, (set_ne (fun e => hb ?_) _).trans x3, x4⟩
    rw [x1, ← e]; rfl
theorem by_kind {w : World} {v : Value} {t : ByteArray} (h : BySl w v t) : ∀ g, slBlock v = some g → ∃ c, w.heap[g]? = some (.cells c 5 (0, 0)) := by
  intro g hg
  obtain ⟨a, cap, rfl, _, ⟨rfl, _⟩ | ⟨g', o, cs, rfl, hq, _⟩⟩ := h
  · cases hg
  · cases hg; exact ⟨cs, hq⟩
theorem by_grown {W w3 : World} {v wv : Value} {t : ByteArray} {n : Nat} {e : TypeId} (he : e ≠ 5) {xs : List Value} (h : BySl W v t) (ho : W.ownsRow 8 e 1 wv n xs) (hg : W.grownBy w3 wv.ownBlock) : BySl w3 v t := by
  refine h.later fun g hs => ?_
  obtain ⟨c, hc⟩ := by_kind h g hs
  refine hg.block g (lt_of hc) (fun e2 => ?_)
  obtain ⟨c2, hc2⟩ := owns_kind ho g e2.symm
  rw [hc] at hc2
  injection hc2 with hc2
  injection hc2 with q1 q2
  exact he q2.symm
theorem by_set {w : World} {v : Value} {t : ByteArray} {b i : Nat} {u : Value} {cs : Array Value} (h : BySl w v t) (hb : w.heap[b]? = some (.cells cs 75 (0, 0))) : BySl (w.setCell ⟨b, i, none⟩ u) v t := by
  refine h.later fun g hs => set_ne ?_ _
  obtain ⟨c, hc⟩ := by_kind h g hs
  rintro rfl
  rw [hb] at hc
  cases hc
def FB (b : Nat) (wv : Value) (q : Nat) : Prop := q = b ∨ wv.ownBlock = some q
theorem fr_two {b i : Nat} {wv : Value} {w w' : World} (h : Fr (FB b wv) w w') (v : Value) : Fr (FB b wv) w (w'.setCell ⟨b, i, none⟩ v) := h.set ⟨b, i, none⟩ (Or.inl (Or.inl rfl)) v
theorem fr_grown {W w3 : World} {F : Nat → Prop} {wv : Value} (hg : W.grownBy w3 wv.ownBlock) (hF : ∀ g, wv.ownBlock = some g → F g) : Fr F W w3 := ⟨hg.os, hg.tape, hg.output, hg.size, fun k hk hn => hg.block k hk (fun e => hn (hF k e.symm))⟩
set_option maxHeartbeats 4000000 in
set_option maxRecDepth 100000 in
theorem bulk_done (b : Nat) (L : Lim) (a : Option Addr) (cap : Nat) (k : Nat) (wv : Value) (wanted read used : Nat) (ft : ByteArray) (t : ByteArray) (w : World) (h : RB b L (.slice a t.size cap) k wv wanted read used ft w) (hs : BySl w (.slice a t.size cap) t) (hz : t.size ≤ 67108864) (hr : read ≤ 67108864) (hwt : 1 ≤ wanted ∧ wanted ≤ 67108864) (hh : Has w) (hb8 : 8 ≤ b) (h1 : 1 ≤ t.size) (i kk : Nat) (hM : Mid b L a cap k wv wanted read used ft t w i kk)
    (mm nn : Nat) (T2 T3 : ByteArray) (a2 : Option Addr) (c2 : Nat) (a3 : Option Addr) (c3 : Nat) (a4 : Option Addr) (c4 : Nat) (Y Z : ByteArray) (hT : Tail t i kk w a cap mm nn T2 T3 a2 c2 a3 c3 a4 c4 Y Z) (hyz : (Y.toList == Z.toList) = true) (hnn : nn = 2)
    (hB2 : BySl w (.slice a2 T2.size c2) T2) (hkk : kk + 2 ≤ T2.size) (hT2 : T2.size = t.size - (i + 1)) (hi : i < t.size) (ws : List (List UInt8)) (hws : WS w wv ws) (hwl : ws.length ≤ 67108864) :
    Calls Tryz.prog 70 #[.pointer (some ⟨b, 0, none⟩)] w fun e w' => e = .returned (.tuple #[]) ∧ ∃ lv' wv', RB b L lv' 0 wv' (wanted - 1) (read + (i + 1 + kk + 2)) used ft w' ∧ BySl w' lv' (t.extract (i + 1 + kk + 2) t.size) ∧ (∀ g, slBlock lv' = some g → slBlock (.slice a t.size cap) = some g) ∧ WS w' wv' (ws ++ [(bs T2).take kk]) ∧ (∀ g, wv'.ownBlock = some g → wv.ownBlock = some g ∨ w.heap.size ≤ g) ∧ Fr (FB b wv) w w' := by
  obtain ⟨⟨X, D, H1, hsl, H2⟩, a1, c1, s1, hcv⟩ := hM
  obtain ⟨p1, p2, p3, p4, p5, p6, p7⟩ := hT
  obtain ⟨V, a5, c5, e5, z5, hB5, _, s5⟩ := by_to hB2 kk (kk : Int) rfl (by omega)
  have d3 : w.cell? ⟨b, 3, none⟩ = _ := h.cell 3
  have d0 : w.cell? ⟨b, 0, none⟩ = _ := h.cell 0
  have g1 : (0 : Int) < (t.size : Int) := by omega
  have g2 : ¬ ((nn : Int) < 2) := by omega
  have H := hid_of h
  have HB5 := hid_of hB5
  have HWS := hid_of hws
  have e6 : IntKind.i64.wrap ((wanted : Int) - 1) = (wanted : Int) - 1 := IntWalk.i64_in _ (by omega)
  have e7 : IntKind.i64.wrap ((i : Int) + 1 + (kk : Int)) = (i : Int) + 1 + (kk : Int) := IntWalk.i64_in _ (by omega)
  have e8 : IntKind.i64.wrap ((i : Int) + 1 + (kk : Int) + 2) = (i : Int) + 1 + (kk : Int) + 2 := IntWalk.i64_in _ (by omega)
  have HH := hid_of hh
  have HS := hid_of hs
  have HE5 := hid_of e5
  have HKK : Hid (i + 1 + kk + 2 ≤ t.size) := by show _ ≤ _; omega
  clear h hnn hB5 hB2 e5 z5 hws hh hs hkk hT2
  go_enter Tryz.func70, Tryz.ntmps70
  go_wp2_with fail
  refine H1.out.mono ?_
  rintro e w1 ⟨rfl, q, rfl⟩
  go_wp2_with fail
  go_region_with (first | (go_at_call 83; refine (H2.out (q + 1)).mono ?_; rintro e w2 ⟨rfl, b2⟩))
  all_goals
    have B2 : Hid (Below w.heap.size w w2) := (bdN w (q + 1)).trans b2
    clear b2
    have r2 := rb_later H.out B2.out
    have R2 := hid_of r2
    have f3 : w2.cell? ⟨b, 3, none⟩ = _ := r2.cell 3
    have f5 : w2.cell? ⟨b, 5, none⟩ = _ := r2.cell 5
    have hcv2 := fun q => p6.out (w2.drewN q) (B2.out.trans ((bdN w2 q).mono B2.out.size))
    have hcv5 := fun q => (by_below HB5.out (B2.out.trans ((bdN w2 q).mono B2.out.size))).conv
    clear r2
    go_wp2_with fail
    go_quiet (fail)
    go_wp2_with fail
    have B3 : Hid (Below w.heap.size w ((w2.drewN (nq + 1)).alloc (.cells #[.string V] 9))) := ((B2.out.trans ((bdN w2 (nq + 1)).mono B2.out.size)).alloc B2.out.size _)
    have HO := hid_of (owns_below HWS.out B3.out)
    have HZ : Hid (8 ≤ ((w2.drewN (nq + 1)).alloc (.cells #[.string V] 9)).heap.size) := Nat.le_trans HH.out.size B3.out.size
    have HU : Hid (((w2.drewN (nq + 1)).alloc (.cells #[.string V] 9)).cell? ⟨w2.heap.size, 0, none⟩ = some (.string V)) := (World.cell?_alloc_new (w2.drewN (nq + 1)) #[.string V] 9 0)
    have R3 := hid_of (rb_later H.out B3.out)
    have f5a : ((w2.drewN (nq + 1)).alloc (.cells #[.string V] 9)).cell? ⟨b, 5, none⟩ = _ := R3.out.cell 5
    go_region_law (refine step_one el33 rfl (.tmp 67) (.tmp 72) rfl wv ws.length (strC ws) ((w2.drewN (nq + 1)).alloc (.cells #[.string V] 9)) ⟨w2.heap.size, 0, none⟩ 1 (.string V) HO.out HZ.out (by first | (simp [Act.eval]; done) | simp [Act.eval, Act.put]) (by first | (simp [Act.eval]; done) | simp [Act.eval, Act.put]) HU.out rfl (by omega) ?_; intro v' w3 hap; have HAP := hid_of hap; obtain ⟨ao, cp, hv⟩ := apd_form hap; subst hv; have hbw : wv.ownBlock ≠ some b := (fun hx => (by obtain ⟨cc, hcc⟩ := owns_kind HO.out b hx; have hr := R3.out; unfold RB at hr; rw [hcc] at hr; cases hr)); have r3 : RB b L (.slice a t.size cap) k wv wanted read used ft w3 := (hap.2.1.block b (lt_of R3.out) (fun e => hbw e.symm)).trans R3.out; have R4 := hid_of r3; have f5' : w3.cell? ⟨b, 5, none⟩ = _ := r3.cell 5; have z5' : w3.frozen? ⟨b, 5, none⟩ = false := r3.frozen 5; have f6' : w3.cell? ⟨b, 6, none⟩ = _ := r3.cell 6; have z6' : w3.frozen? ⟨b, 6, none⟩ = false := r3.frozen 6; have HBW := hid_of hbw; clear hap r3 hbw)
  all_goals
    go_wp2_with fail
    have hlen : i + 1 + kk + 2 ≤ t.size := HKK.out
    have R5 : RB b L (.slice a t.size cap) k (.slice ao (ws.length + 1) cp) (wanted - 1) read used ft ((w3.setCell ⟨b, 5, none⟩ (.slice ao (ws.length + 1) cp)).setCell ⟨b, 6, none⟩ (.int .i64 ((wanted : Int) - 1))) := by
      have h := set_at (i := 6) (set_at (i := 5) R4.out (.slice ao (ws.length + 1) cp)) (.int .i64 ((wanted : Int) - 1))
      rw [show ((wanted : Int) - 1) = ((wanted - 1 : Nat) : Int) from by omega] at h ⊢
      exact h
    have S5 : BySl ((w3.setCell ⟨b, 5, none⟩ (.slice ao (ws.length + 1) cp)).setCell ⟨b, 6, none⟩ (.int .i64 ((wanted : Int) - 1))) (.slice a t.size cap) t :=
      by_set (by_set (by_grown (by decide) (by_below HS.out B3.out) HO.out HAP.out.2.1) R4.out) (set_at R4.out _)
    have F5 : Fr (FB b wv) w ((w3.setCell ⟨b, 5, none⟩ (.slice ao (ws.length + 1) cp)).setCell ⟨b, 6, none⟩ (.int .i64 ((wanted : Int) - 1))) :=
      fr_two (fr_two ((Fr.of_below B3.out).trans (fr_grown HAP.out.2.1 (fun g hg => Or.inr hg))) _) _
    have hob : Value.ownBlock (.slice ao (ws.length + 1) cp) ≠ some b := by
      intro hx
      obtain ⟨cc, hcc⟩ := owns_kind HAP.out.1 b hx
      have hr := R4.out
      unfold RB at hr
      rw [hcc] at hr
      cases hr
    have O5 := owns_set (b := b) (i := 6) (u := .int .i64 ((wanted : Int) - 1)) (owns_set (b := b) (i := 5) (u := .slice ao (ws.length + 1) cp) HAP.out.1 hob) hob
    have W5 : ∀ g, Value.ownBlock (.slice ao (ws.length + 1) cp) = some g → wv.ownBlock = some g ∨ w.heap.size ≤ g := fun g hg => (HAP.out.2.2.1 g hg).elim Or.inl (fun q => Or.inr (Nat.le_trans B3.out.size q))
    have HV := HE5.out
    generalize (w3.setCell ⟨b, 5, none⟩ (.slice ao (ws.length + 1) cp)).setCell ⟨b, 6, none⟩ (.int .i64 ((wanted : Int) - 1)) = w5 at R5 S5 F5 O5 ⊢
    have HR := hid_of (And.intro R5 (And.intro F5 (And.intro O5 (And.intro W5 (And.intro hob HV)))))
    refine (take_call b L _ k _ (wanted - 1) read used ft t (i + 1 + kk + 2) _ w5 R5 S5 (by omega) hlen hz hr).mono ?_
    clear R5 S5 F5 O5 W5 hob HV
    rintro e w6 ⟨rfl, lv', r6, s6, sb6, fr6⟩
    have HR6 := hid_of (And.intro r6 (And.intro s6 (And.intro sb6 fr6)))
    clear r6 s6 sb6 fr6
    go_wp2_with fail
    go_end0
    obtain ⟨r6, s6, sb6, fr6⟩ := HR6.out
    obtain ⟨R5, F5, O5, W5, hob, HV⟩ := HR.out
    refine ⟨rfl, lv', _, r6, s6, sb6, ?_, W5, F5.go fr6 (fun x hx => Or.inl (Or.inl hx))⟩
    have ew : (ws ++ [(bs T2).take kk]).length = ws.length + 1 := by simp
    have es : strC (ws ++ [(bs T2).take kk]) = strC ws ++ [.string V] := by
      unfold strC
      rw [List.map_append]
      congr 1
      rw [← HV]
      show [Value.string (mk (bs V))] = _
      rw [mk_bs]
    unfold WS
    rw [ew, es]
    refine ⟨O5.1, ?_⟩
    rcases O5.2 with x | ⟨g, cp', cur, x1, x2, x3, x4⟩
    · exact Or.inl x
    · refine Or.inr ⟨g, cp', cur, x1, x2, (fr6.block g (lt_of x3) (fun e => ?_)).trans x3, x4⟩
      rw [x1] at hob
      exact hob (by rw [e]; rfl)
end Go.Proofs.YtfkilbhhpipjbaaGreatDoor.Bulk2
