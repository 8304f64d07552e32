/- swaps: a file that is written, synced and renamed over another one. -/
import Derived.Test.YtilbffbmpgebmaaCrashS
namespace Go.Proofs.Ytilbffbmpgebmaa.Swaps
open Go.RowKit Go.Maps Go.Sort
open Go.Proofs.Ytilbffbmpgebmaa.DiskMath
open Go.Proofs.Ytilbffbmpgebmaa.Base
open Go.Proofs.Ytilbffbmpgebmaa.Small
open Go.Proofs.Ytilbffbmpgebmaa.Find
open Go.Proofs.Ytilbffbmpgebmaa.File
open Go.Proofs.Ytilbffbmpgebmaa.File2
open Go.Proofs.Ytilbffbmpgebmaa.Append
open Go.Proofs.Ytilbffbmpgebmaa.Ops
open Go.Proofs.Ytilbffbmpgebmaa.Ops2
open Go.Proofs.Ytilbffbmpgebmaa.Crash
open Go.Proofs.Ytilbffbmpgebmaa.CrashS
set_option linter.unusedVariables false

abbrev P0 (b : Nat) : Value := .pointer (some ⟨b, 0, none⟩)
section
variable {base b : Nat} {d d' : Dk} {w : World}
theorem op_create {s : ByteArray} {e : Int} (hd : d.create (bs s) = (d', e)) (h : Has base b d w) (hp : d.plan = []) (hs : s.size ≤ 281474976710656) (h40 : d.steps + 1 < 1099511627776) :
    Calls Try.prog 26 #[P0 b, .string s] w fun e' w' => e' = .returned (.int .i64 e) ∧ Has base b d' w' ∧ Ev DT base w w' := by
  obtain ⟨y, k⟩ := h
  have := create_call base b y d w k s hs (step_nil base b d hp (by omega)) h40
  rw [hd] at this
  exact this
theorem op_append {s t : ByteArray} {n e : Int} (hd : d.append (bs s) (bs t) = (d', n, e)) (h : Has base b d w) (hp : d.plan = []) (hs : s.size ≤ 281474976710656) (h40 : d.steps + 1 < 1099511627776) (hz : ∀ x, d.files[d.file (bs s)]? = some x → x.1.length + t.size ≤ 140737488355328) (ht : t.size ≤ 281474976710656) :
    Calls Try.prog 17 #[P0 b, .string s, .string t] w fun e' w' => e' = .returned (.tuple #[.int .i64 n, .int .i64 e]) ∧ Has base b d' w' ∧ Ev DT base w w' := by
  obtain ⟨y, k⟩ := h
  have := append_call base b y d w k s t hs (step_nil base b d hp (by omega)) hz ht
  rw [hd] at this
  exact this
theorem op_sync {s : ByteArray} {e : Int} (hd : d.sync (bs s) = (d', e)) (h : Has base b d w) (hp : d.plan = []) (hs : s.size ≤ 281474976710656) (h40 : d.steps + 1 < 1099511627776) :
    Calls Try.prog 18 #[P0 b, .string s] w fun e' w' => e' = .returned (.int .i64 e) ∧ Has base b d' w' ∧ Ev DT base w w' := by
  obtain ⟨y, k⟩ := h
  have := sync_call base b y d w k s hs (step_nil base b d hp (by omega))
  rw [hd] at this
  exact this
theorem op_names {e : Int} (hd : d.syncNames = (d', e)) (h : Has base b d w) (hp : d.plan = []) (h40 : d.steps + 1 < 1099511627776) :
    Calls Try.prog 27 #[P0 b] w fun e' w' => e' = .returned (.int .i64 e) ∧ Has base b d' w' ∧ Ev DT base w w' := by
  obtain ⟨y, k⟩ := h
  have := syncNames_call base b y d w k (step_nil base b d hp (by omega)) h40
  rw [hd] at this
  exact this
theorem op_rename {s t : ByteArray} {e : Int} (hd : d.rename (bs s) (bs t) = (d', e)) (h : Has base b d w) (hp : d.plan = []) (hs : s.size ≤ 281474976710656) (ht : t.size ≤ 281474976710656) (h40 : d.steps + 1 < 1099511627776) :
    Calls Try.prog 30 #[P0 b, .string s, .string t] w fun e' w' => e' = .returned (.int .i64 e) ∧ Has base b d' w' ∧ Ev DT base w w' := by
  obtain ⟨y, k⟩ := h
  have := rename_call base b y d w k s t hs ht (step_nil base b d hp (by omega)) h40
  rw [hd] at this
  exact this
theorem op_read {s t : ByteArray} {e : Int} (hd : d.read (bs s) = (bs t, e)) (h : Has base b d w) (hs : s.size ≤ 281474976710656) :
    Calls Try.prog 15 #[P0 b, .string s] w fun e' w' => e' = .returned (.tuple #[.string t, .int .i64 e]) ∧ Has base b d w' ∧ Ev DT base w w' := by
  obtain ⟨y, k⟩ := h
  have := read_call base b y d w k s hs
  rw [hd, mk_bs] at this
  exact this.mono fun e' w' ⟨h1, h2⟩ => ⟨h1, ⟨y, k.below h2⟩, Ev.of_below h2⟩
theorem op_crash {cn : Int} {a0 : Option Addr} {n0 c0 : Nat} {bytes : List Int} (hd : d.crash cn bytes = d') (h : Has base b d w) (h40 : d.steps < 1099511627776) (hbl : bytes.length ≤ 9223372036854775807) (hB : ∀ W, Ev DT base w W → IntSl W (.slice a0 n0 c0) bytes) (hsy : ∀ p ∈ (d.settle (within cn d.opens.length)).last, ∃ t : Bs, d.files[p.2]? = some (t, t.length)) :
    Calls Try.prog 13 #[P0 b, .agg #[.int .i64 cn, .slice a0 n0 c0]] w fun e' w' => e' = .returned (.tuple #[]) ∧ Has base b d' w' ∧ Ev DT base w w' := by
  obtain ⟨y, k⟩ := h
  have := crash_call base b y d w k cn a0 n0 c0 bytes h40 hbl hB hsy
  rw [hd] at this
  exact this
end
/- the abstract disk on its way -/
def d1 : Dk := ⟨[([], 0)], [([97], 0)], [], [.make [97] 0], [], 1, false⟩
def d2 (o : Bs) : Dk := ⟨[(o, 0)], [([97], 0)], [], [.make [97] 0], [], 2, false⟩
def d3 (o : Bs) : Dk := ⟨[(o, o.length)], [([97], 0)], [], [.make [97] 0], [], 3, false⟩
def d4 (o : Bs) : Dk := ⟨[(o, o.length)], [([97], 0)], [([97], 0)], [], [], 4, false⟩
def d5 (o : Bs) : Dk := ⟨[(o, o.length), ([], 0)], [([97], 0), ([98], 1)], [([97], 0)], [.make [98] 1], [], 5, false⟩
def d6 (o f : Bs) : Dk := ⟨[(o, o.length), (f, 0)], [([97], 0), ([98], 1)], [([97], 0)], [.make [98] 1], [], 6, false⟩
def d7 (o f : Bs) : Dk := ⟨[(o, o.length), (f, f.length)], [([97], 0), ([98], 1)], [([97], 0)], [.make [98] 1], [], 7, false⟩
def d8 (o f : Bs) : Dk := ⟨[(o, o.length), (f, f.length)], [([97], 1)], [([97], 0)], [.make [98] 1, .move [98] [97] 1], [], 8, false⟩
def d9 (o f : Bs) : Dk := ⟨[(o, o.length), (f, f.length)], [([97], 1)], [([97], 1)], [], [], 9, false⟩
theorem t1 : new.create [97] = (d1, 0) := rfl
theorem t2 (o : Bs) : d1.append [97] o = (d2 o, (o.length : Int), 0) := rfl
theorem t3 (o : Bs) : (d2 o).sync [97] = (d3 o, 0) := rfl
theorem t4 (o : Bs) : (d3 o).syncNames = (d4 o, 0) := rfl
theorem t5 (o : Bs) : (d4 o).create [98] = (d5 o, 0) := rfl
theorem t6 (o f : Bs) : (d5 o).append [98] f = (d6 o f, (f.length : Int), 0) := rfl
theorem t7 (o f : Bs) : (d6 o f).sync [98] = (d7 o f, 0) := rfl
theorem t8 (o f : Bs) : (d7 o f).rename [98] [97] = (d8 o f, 0) := rfl
theorem t9 (o f : Bs) : (d8 o f).syncNames = (d9 o f, 0) := rfl
theorem r8 (o f : Bs) : (d8 o f).read [97] = (f, 0) := rfl
theorem r9 (o f : Bs) : (d9 o f).read [97] = (f, 0) := rfl
theorem both (o f : Bs) (p : Bs × Nat) (hp : p.2 = 0 ∨ p.2 = 1) : ∃ t : Bs, ([(o, o.length), (f, f.length)] : List (Bs × Nat))[p.2]? = some (t, t.length) := by
  rcases hp with h | h
  · rw [h]; exact ⟨o, rfl⟩
  · rw [h]; exact ⟨f, rfl⟩
theorem sy9 (o f : Bs) (cn : Int) : ∀ p ∈ ((d9 o f).settle (within cn (d9 o f).opens.length)).last, ∃ t : Bs, (d9 o f).files[p.2]? = some (t, t.length) := by
  have : within cn (d9 o f).opens.length = 0 := by show within cn 0 = 0; unfold within; omega
  rw [this]
  intro p hp
  change p ∈ [(([97] : Bs), 1)] at hp
  rw [List.mem_singleton.1 hp]
  exact both o f _ (Or.inr rfl)
theorem sy8 (o f : Bs) (cn : Int) : ∀ p ∈ ((d8 o f).settle (within cn (d8 o f).opens.length)).last, ∃ t : Bs, (d8 o f).files[p.2]? = some (t, t.length) := by
  have hw : within cn (d8 o f).opens.length = 0 ∨ within cn (d8 o f).opens.length = 1 ∨ within cn (d8 o f).opens.length = 2 := by show within cn 2 = 0 ∨ within cn 2 = 1 ∨ within cn 2 = 2; unfold within; omega
  intro p hp
  rcases hw with h | h | h
  · rw [h] at hp
    change p ∈ [(([97] : Bs), 0)] at hp
    rw [List.mem_singleton.1 hp]
    exact both o f _ (Or.inl rfl)
  · rw [h] at hp
    change p ∈ [(([97] : Bs), 0), ([98], 1)] at hp
    rcases List.mem_cons.1 hp with e | e
    · rw [e]; exact both o f _ (Or.inl rfl)
    · rw [List.mem_singleton.1 e]; exact both o f _ (Or.inr rfl)
  · rw [h] at hp
    change p ∈ [(([97] : Bs), 1)] at hp
    rw [List.mem_singleton.1 hp]
    exact both o f _ (Or.inr rfl)
theorem c9 (o f : Bs) (cn : Int) (bytes : List Int) : ((d9 o f).crash cn bytes).read [97] = (f, 0) := by
  have e : (d9 o f).crash cn bytes = ⟨[(o, o.length), crashF (outl bytes 0) (f, f.length)], [([97], 1)], [([97], 1)], [], [], 9, false⟩ := by
    unfold Dk.crash
    have : within cn (d9 o f).opens.length = 0 := by show within cn 0 = 0; unfold within; omega
    rw [this]
    rfl
  rw [e, crashF_all]
  rfl
theorem c8 (o f : Bs) (cn : Int) (bytes : List Int) : ((d8 o f).crash cn bytes).read [97] = (if 2 ≤ cn then f else o, 0) := by
  have hw : within cn (d8 o f).opens.length = within cn 2 := rfl
  by_cases h2 : 2 ≤ cn
  · rw [if_pos h2]
    have : within cn 2 = 2 := by unfold within; omega
    have e : (d8 o f).crash cn bytes = ⟨[(o, o.length), crashF (outl bytes 0) (f, f.length)], [([97], 1)], [([97], 1)], [], [], 8, false⟩ := by
      unfold Dk.crash
      rw [hw, this]
      rfl
    rw [e, crashF_all]
    rfl
  · rw [if_neg h2]
    by_cases h1 : cn = 1
    · have : within cn 2 = 1 := by unfold within; omega
      have e : (d8 o f).crash cn bytes = ⟨[crashF (outl bytes 0) (o, o.length), crashF (outl bytes 1) (f, f.length)], [([97], 0), ([98], 1)], [([97], 0), ([98], 1)], [], [], 8, false⟩ := by
        unfold Dk.crash
        rw [hw, this]
        rfl
      rw [e, crashF_all, crashF_all]
      rfl
    · have : within cn 2 = 0 := by unfold within; omega
      have e : (d8 o f).crash cn bytes = ⟨[crashF (outl bytes 0) (o, o.length), (f, f.length)], [([97], 0)], [([97], 0)], [], [], 8, false⟩ := by
        unfold Dk.crash
        rw [hw, this]
        rfl
      rw [e, crashF_all]
      rfl
end Go.Proofs.Ytilbffbmpgebmaa.Swaps
