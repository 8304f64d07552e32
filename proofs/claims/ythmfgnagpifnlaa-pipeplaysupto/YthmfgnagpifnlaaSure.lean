/- The calls over a network that is the caller's own; what must come whatever the input is. -/
import Derived.Test.YthmfgnagpifnlaaCalls3
namespace Go.Proofs.Ythmfgnagpifnlaa.Sure
open Go.RowKit
open Go.Proofs.Ythmfgnagpifnlaa.PipeMath
open Go.Proofs.Ythmfgnagpifnlaa.Base
open Go.Proofs.Ythmfgnagpifnlaa.Queue
open Go.Proofs.Ythmfgnagpifnlaa.Queue2
open Go.Proofs.Ythmfgnagpifnlaa.Net
open Go.Proofs.Ythmfgnagpifnlaa.Connect
open Go.Proofs.Ythmfgnagpifnlaa.Calls
open Go.Proofs.Ythmfgnagpifnlaa.Calls2
open Go.Proofs.Ythmfgnagpifnlaa.Calls3
set_option linter.unusedVariables false

def Up (base : Nat) : Nat → Prop := fun k => base ≤ k
theorem up_gr {base : Nat} {w : World} (h : base ≤ w.heap.size) : ∀ k, Gr (Up base) w k → Up base k := fun k e => e.elim id fun e => Nat.le_trans h e
structure HU (base b : Nat) (n : Nt) (w : World) : Prop where
  has : Has (Up base) b n w
  low : base ≤ w.heap.size
theorem has_mono {F G : Nat → Prop} {b : Nat} {n : Nt} {w : World} (h : Has F b n w) (hG : ∀ k, F k → G k) : Has G b n w := by
  obtain ⟨y, h⟩ := h
  exact ⟨y, h.mono hG⟩
theorem HU.on {base b : Nat} {n n' : Nt} {w w' : World} (h : HU base b n w) (q : Has (Gr (Up base) w) b n' w') (f : Fr (Up base) w w') : HU base b n' w' := ⟨has_mono q (up_gr h.low), Nat.le_trans h.low f.size⟩
theorem HU.drewN {base b : Nat} {n : Nt} {w : World} (h : HU base b n w) (m : Nat) : HU base b n (w.drewN m) := by
  obtain ⟨y, k⟩ := h.has
  exact ⟨⟨y, k.drewN m⟩, h.low⟩
theorem HU.below {base b : Nat} {n : Nt} {w w' : World} (h : HU base b n w) (e : Below w.heap.size w w') : HU base b n w' := by
  obtain ⟨y, k⟩ := h.has
  exact ⟨⟨y, k.below e⟩, Nat.le_trans h.low e.size⟩
theorem up_trans {base : Nat} {a b c : World} (ha : base ≤ a.heap.size) (h : Fr (Up base) a b) (k : Fr (Up base) b c) : Fr (Up base) a c := h.trans (k.mono fun _ _ e => Or.inl e)
section
variable {base b : Nat} {n n' : Nt} {w : World}
theorem u_connect {x e : Int} (hd : n.connect = (n', x, e)) (h : HU base b n w) : Calls Try.prog 12 #[ptr b] w fun r w' => r = .returned (.tuple #[.int .i64 x, .int .i64 e]) ∧ HU base b n' w' ∧ Fr (Up base) w w' := by
  obtain ⟨y, k⟩ := h.has
  have := connect_call k
  rw [hd] at this
  exact this.mono fun r w' ⟨h1, h2, h3⟩ => ⟨h1, h.on h2 h3, h3⟩
theorem u_accept {x : Int} {e : Bool} (hd : n.accept = (n', x, e)) (h : HU base b n w) : Calls Try.prog 19 #[ptr b] w fun r w' => r = .returned (.tuple #[.int .i64 x, .bool e]) ∧ HU base b n' w' ∧ Fr (Up base) w w' := by
  obtain ⟨y, k⟩ := h.has
  have := accept_call k
  rw [hd] at this
  exact this.mono fun r w' ⟨h1, h2, h3⟩ => ⟨h1, ⟨⟨y, h2⟩, Nat.le_trans h.low h3.size⟩, h3⟩
theorem u_send {c e : Int} {s : ByteArray} (hd : n.send c (bs s) = (n', e)) (h : HU base b n w) (hz : ∀ k, n.at c = some k → k.sent.length + s.size ≤ 140737488355328) : Calls Try.prog 21 #[ptr b, .int .i64 c, .string s] w fun r w' => r = .returned (.int .i64 e) ∧ HU base b n' w' ∧ Fr (Up base) w w' := by
  obtain ⟨y, k⟩ := h.has
  have := send_call k c s hz
  rw [hd] at this
  exact this.mono fun r w' ⟨h1, h2, h3⟩ => ⟨h1, h.on h2 h3, h3⟩
theorem u_end {c e : Int} (hd : n.endC c = (n', e)) (h : HU base b n w) : Calls Try.prog 27 #[ptr b, .int .i64 c] w fun r w' => r = .returned (.int .i64 e) ∧ HU base b n' w' ∧ Fr (Up base) w w' := by
  obtain ⟨y, k⟩ := h.has
  have := end_call k c
  rw [hd] at this
  exact this.mono fun r w' ⟨h1, h2, h3⟩ => ⟨h1, h.on h2 h3, h3⟩
theorem u_close {c e : Int} (hd : n.close c = (n', e)) (h : HU base b n w) : Calls Try.prog 35 #[ptr b, .int .i64 c] w fun r w' => r = .returned (.int .i64 e) ∧ HU base b n' w' ∧ Fr (Up base) w w' := by
  obtain ⟨y, k⟩ := h.has
  have := close_call k c
  rw [hd] at this
  exact this.mono fun r w' ⟨h1, h2, h3⟩ => ⟨h1, h.on h2 h3, h3⟩
theorem u_cut {c e : Int} (hd : n.cutC c = (n', e)) (h : HU base b n w) (hz : ∀ k, n.at c = some k → k.wrote.length ≤ 140737488355328) : Calls Try.prog 30 #[ptr b, .int .i64 c] w fun r w' => r = .returned (.int .i64 e) ∧ HU base b n' w' ∧ Fr (Up base) w w' := by
  obtain ⟨y, k⟩ := h.has
  have := cut_call k c hz
  rw [hd] at this
  exact this.mono fun r w' ⟨h1, h2, h3⟩ => ⟨h1, h.on h2 h3, h3⟩
theorem u_take {c m e : Int} {t : Bs} (hd : n.take c m = (n', t, e)) (h : HU base b n w) (hz : ∀ k, n.at c = some k → k.wrote.length ≤ 140737488355328) : Calls Try.prog 24 #[ptr b, .int .i64 c, .int .i64 m] w fun r w' => r = .returned (.tuple #[.string (mk t), .int .i64 e]) ∧ HU base b n' w' ∧ Fr (Up base) w w' := by
  obtain ⟨y, k⟩ := h.has
  have := take_call k c m hz
  rw [hd] at this
  exact this.mono fun r w' ⟨h1, h2, h3⟩ => ⟨h1, h.on h2 h3, h3⟩
theorem u_read {c m e : Int} {t : Bs} {x : Bool} (hd : n.read c m = (n', t, x, e)) (h : HU base b n w) (hz : ∀ k, n.at c = some k → k.sent.length ≤ 140737488355328) : Calls Try.prog 22 #[ptr b, .int .i64 c, .int .i64 m] w fun r w' => r = .returned (.tuple #[.string (mk t), .bool x, .int .i64 e]) ∧ HU base b n' w' ∧ Fr (Up base) w w' := by
  obtain ⟨y, k⟩ := h.has
  have := read_call k c m hz
  rw [hd] at this
  exact this.mono fun r w' ⟨h1, h2, h3⟩ => ⟨h1, h.on h2 h3, h3⟩
theorem u_write {c x e : Int} {s : ByteArray} (hd : n.write c (bs s) = (n', x, e)) (h : HU base b n w) (hz : ∀ k, n.at c = some k → k.wrote.length + s.size ≤ 140737488355328) (hs : s.size ≤ 140737488355328) : Calls Try.prog 23 #[ptr b, .int .i64 c, .string s] w fun r w' => r = .returned (.tuple #[.int .i64 x, .int .i64 e]) ∧ HU base b n' w' ∧ Fr (Up base) w w' := by
  obtain ⟨y, k⟩ := h.has
  have := write_call k c s hz hs
  rw [hd] at this
  exact this.mono fun r w' ⟨h1, h2, h3⟩ => ⟨h1, h.on h2 h3, h3⟩
theorem u_room {c x : Int} (hd : n.room c = x) (h : HU base b n w) (hz : ∀ k, n.at c = some k → k.wrote.length ≤ 140737488355328) : Calls Try.prog 20 #[ptr b, .int .i64 c] w fun r w' => r = .returned (.int .i64 x) ∧ ∃ m, w' = w.drewN m := by
  obtain ⟨y, k⟩ := h.has
  have := room_call k c hz
  rw [hd] at this
  exact this
theorem u_sent {c : Int} {t : Bs} (hd : n.sentA c = t) (h : HU base b n w) : Calls Try.prog 17 #[ptr b, .int .i64 c] w fun r w' => r = .returned (.string (mk t)) ∧ w' = w := by
  obtain ⟨y, k⟩ := h.has
  have := sent_call k c
  rw [hd] at this
  exact this
theorem u_taken {c : Int} {t : Bs} (hd : n.taken c = t) (h : HU base b n w) : Calls Try.prog 18 #[ptr b, .int .i64 c] w fun r w' => r = .returned (.string (mk t)) ∧ ∃ m, w' = w.drewN m := by
  obtain ⟨y, k⟩ := h.has
  have := taken_call k c
  rw [hd] at this
  exact this
theorem u_conns {x : Int} (hd : (n.cs.length : Int) = x) (h : HU base b n w) : Calls Try.prog 13 #[ptr b] w fun r w' => r = .returned (.int .i64 x) ∧ w' = w := by
  obtain ⟨y, k⟩ := h.has
  have := conns_call k
  rw [hd] at this
  exact this
end
theorem u_new (win : Nat) (h1 : 1 ≤ win) (h2 : win ≤ 1048576) (w : World) : Calls Try.prog 7 #[.int .i64 (win : Int)] w fun e w' => e = .returned (.tuple #[ptr w.heap.size, .int .i64 0]) ∧ HU w.heap.size w.heap.size (new win) w' ∧ Below w.heap.size w w' :=
  (new_yes win h1 h2 w).mono fun e w' ⟨h1, h2, h3⟩ => ⟨h1, ⟨has_mono h2 fun k e => Nat.le_of_eq e.symm, h3.size⟩, h3⟩
def k1 : Cn := { cn0 with sent := [97, 98] }
def k2 : Cn := { k1 with rd := 2 }
def k3 : Cn := { k2 with wrote := [117, 118, 119, 120] }
def k4 : Cn := { k3 with tk := 3 }
theorem s1 : (new 4).connect = (⟨4, [cn0], 0⟩, 0, 0) := rfl
theorem s2 : Nt.accept ⟨4, [cn0], 0⟩ = (⟨4, [cn0], 1⟩, 0, true) := rfl
theorem s3 : Nt.send ⟨4, [cn0], 1⟩ 0 (bs ⟨#[97, 98]⟩) = (⟨4, [k1], 1⟩, 0) := rfl
theorem s4 : Nt.read ⟨4, [k1], 1⟩ 0 9 = (⟨4, [k2], 1⟩, [97, 98], false, 0) := rfl
theorem s5 : Nt.write ⟨4, [k2], 1⟩ 0 (bs ⟨#[117, 118, 119, 120, 121, 122]⟩) = (⟨4, [k3], 1⟩, 4, 0) := rfl
theorem s6 : Nt.take ⟨4, [k3], 1⟩ 0 3 = (⟨4, [k4], 1⟩, [117, 118, 119], 0) := rfl
theorem s7 : Nt.room ⟨4, [k4], 1⟩ 0 = 3 := rfl
theorem s8 : Nt.sentA ⟨4, [k4], 1⟩ 0 = [97, 98] := rfl
theorem s9 : Nt.taken ⟨4, [k4], 1⟩ 0 = [117, 118, 119] := rfl
theorem one_of {k : Cn} {k0 : Cn} {w a : Nat} (h : Nt.at ⟨w, [k0], a⟩ 0 = some k) : k = k0 := by
  have : (some k0 : Option Cn) = some k := h
  injection this with this
  exact this.symm
set_option maxHeartbeats 2000000 in
set_option maxRecDepth 100000 in
theorem sure_call (w : World) : Calls Try.prog 9 #[] w fun e w' => e = .returned (.bool true) ∧ Below w.heap.size w w' := by
  have A1 := hid_of (u_new 4 (by decide) (by decide) w)
  have A2 := hid_of (fun W => new_no 0 (by decide) W)
  obtain ⟨B, hB⟩ : ∃ B, B = w.heap.size := ⟨_, rfl⟩
  rw [← hB] at A1 ⊢
  have B1 := hid_of (fun W (h : HU B B (new 4) W) => u_connect s1 h)
  have B2 := hid_of (fun W (h : HU B B ⟨4, [cn0], 0⟩ W) => u_accept s2 h)
  have B3 := hid_of (fun W (h : HU B B ⟨4, [cn0], 1⟩ W) => u_send s3 h (fun k e => by rw [one_of e]; decide))
  have B4 := hid_of (fun W (h : HU B B ⟨4, [k1], 1⟩ W) => u_read s4 h (fun k e => by rw [one_of e]; decide))
  have B5 := hid_of (fun W (h : HU B B ⟨4, [k2], 1⟩ W) => u_write s5 h (fun k e => by rw [one_of e]; decide) (by decide))
  have B6 := hid_of (fun W (h : HU B B ⟨4, [k3], 1⟩ W) => u_take s6 h (fun k e => by rw [one_of e]; decide))
  have B7 := hid_of (fun W (h : HU B B ⟨4, [k4], 1⟩ W) => u_room s7 h (fun k e => by rw [one_of e]; decide))
  have B8 := hid_of (fun W (h : HU B B ⟨4, [k4], 1⟩ W) => u_sent s8 h)
  have B9 := hid_of (fun W (h : HU B B ⟨4, [k4], 1⟩ W) => u_taken s9 h)
  have B10 := hid_of (fun W (h : HU B B ⟨4, [k4], 1⟩ W) => u_conns (x := 1) rfl h)
  have HB := hid_of hB
  clear hB
  go_enter Try.func9, Try.ntmps9
  go_wp2_with fail
  refine A1.out.mono ?_
  rintro e w1 ⟨rfl, h1, b1⟩
  have X1 := hid_of (And.intro h1 b1); clear h1 b1
  go_wp2_with fail
  refine (A2.out _).mono ?_
  rintro e w1' ⟨rfl, rfl⟩
  go_wp2_with fail
  refine (B1.out _ X1.out.1).mono ?_
  rintro e w2 ⟨rfl, h2, f2⟩
  have X2 := hid_of (And.intro h2 f2); clear h2 f2
  go_wp2_with fail
  refine (B2.out _ X2.out.1).mono ?_
  rintro e w3 ⟨rfl, h2, f2⟩
  have X3 := hid_of (And.intro h2 f2); clear h2 f2
  go_wp2_with fail
  refine (B3.out _ X3.out.1).mono ?_
  rintro e w4 ⟨rfl, h2, f2⟩
  have X4 := hid_of (And.intro h2 f2); clear h2 f2
  go_wp2_with fail
  refine (B4.out _ X4.out.1).mono ?_
  rintro e w5 ⟨rfl, h2, f2⟩
  have X5 := hid_of (And.intro h2 f2); clear h2 f2
  go_wp2_with fail
  refine (B5.out _ X5.out.1).mono ?_
  rintro e w6 ⟨rfl, h2, f2⟩
  have X6 := hid_of (And.intro h2 f2); clear h2 f2
  go_wp2_with fail
  refine (B6.out _ X6.out.1).mono ?_
  rintro e w7 ⟨rfl, h2, f2⟩
  have X7 := hid_of (And.intro h2 f2); clear h2 f2
  unfold mk
  go_wp2_with fail
  refine (B7.out _ X7.out.1).mono ?_
  rintro e w8 ⟨rfl, m8, rfl⟩
  go_wp2_with fail
  refine (B8.out _ (X7.out.1.drewN m8)).mono ?_
  rintro e w9 ⟨rfl, rfl⟩
  unfold mk
  go_wp2_with fail
  refine (B9.out _ (X7.out.1.drewN m8)).mono ?_
  rintro e w10 ⟨rfl, m10, rfl⟩
  unfold mk
  go_wp2_with fail
  refine (B10.out _ (X7.out.1.drewN (m8 + m10))).mono ?_
  rintro e w11 ⟨rfl, rfl⟩
  go_wp2_with fail
  go_ret
  have b := X1.out.2
  have l := X1.out.1.low
  have f7 := (((((X2.out.2.trans (X3.out.2.mono fun _ _ e => Or.inl e)).trans (X4.out.2.mono fun _ _ e => Or.inl e)).trans (X5.out.2.mono fun _ _ e => Or.inl e)).trans (X6.out.2.mono fun _ _ e => Or.inl e)).trans (X7.out.2.mono fun _ _ e => Or.inl e)).drewN (m8 + m10)
  exact ⟨rfl, b.trans (f7.below l fun k e => e)⟩
end Go.Proofs.Ythmfgnagpifnlaa.Sure
