/- strings.Builder at this program: the contracts of copyCheck, WriteByte and WriteString. The contracts of num.Fix and of the document's own Fix. A value's bytes written: numbers, texts, lists, fields, entries. -/
import Derived.Test.YtpnigkjmofhmbabGreatShelf
import Derived.Test.YtpnigkjmofhmbabGreatOfM
import Derived.WalkKit
import Derived.Lib.OthersKept
import Derived.Test.YtpnigkjmofhmbabGreatRows
import Derived.Test.YtpnigkjmofhmbabGreatFixMathM
import Derived.Below
import Derived.Test.YtpnigkjmofhmbabGreatDecM
section
set_option linter.unusedVariables false
namespace Go.Proofs.YtpnigkjmofhmbabGreat.Builder
open Go.RowKit Go.Shelf

/- below B all stands, and above it all but the builder's own block and rows of bytes -/
def Kp (B b : Nat) (w w' : World) : Prop := Below B w w' ∧ Lib.OthersKept 5 (some b) w w'
theorem Kp.refl (B b : Nat) (w : World) : Kp B b w w := ⟨Below.refl B w, Lib.OthersKept.refl _ _ w⟩
theorem Kp.trans {B b : Nat} {x y z : World} (h : Kp B b x y) (k : Kp B b y z) : Kp B b x z := ⟨h.1.trans k.1, h.2.trans k.2⟩
theorem Kp.alloc {B b : Nat} {x y : World} (h : Kp B b x y) (hB : B ≤ x.heap.size) (o : Obj) : Kp B b x (y.alloc o) := ⟨h.1.alloc (Nat.le_trans hB h.1.size) o, h.2.alloc o⟩
theorem Kp.size {B b : Nat} {x y : World} (h : Kp B b x y) : x.heap.size ≤ y.heap.size := h.1.size
theorem owns_kind {w : World} {B : Nat} {e : TypeId} {v : Value} {n z : Nat} {xs : List Value} (h : w.ownsRow B e z v n xs) : ∀ g, v.ownBlock = some g → ∃ c fz, w.heap[g]? = some (.cells c e fz) := by
  intro g hg
  rcases h.2 with ⟨rfl, _⟩ | ⟨g', cap, cur, rfl, _, hgg, _⟩
  · simp [Value.ownBlock] at hg
  · simp [Value.ownBlock] at hg
    subst hg
    exact ⟨cur, _, hgg⟩

theorem size59 : (Tryz.prog.info? 70).map (·.size) = some 2 := by kernel_rfl
theorem lies59 : liesAt Tryz.prog Tryz.prog.depth 70 (2 / Tryz.prog.cellsOf 70) 0 70 1 = true := by kernel_rfl
theorem info5 : (Tryz.prog.info? 5).map (fun i => (i.zero, i.size, i.bytes)) = some (some (.int .u8 0), 1, 1) := by kernel_rfl

set_option maxHeartbeats 1000000 in
set_option maxRecDepth 100000 in
theorem check_used (b : Nat) (w : World) (h0 : w.cell? ⟨b, 0, none⟩ = some (.pointer (some ⟨b, 0, none⟩))) :
    Calls Tryz.prog 77 #[.pointer (some ⟨b, 0, none⟩)] w fun e w' => e = .returned (.tuple #[]) ∧ w' = w := by
  obtain ⟨j, hj, _⟩ := Option.map_eq_some_iff.1 size59
  go_enter Tryz.func77, Tryz.ntmps77
  go_wp2
  rw [Lib.run_neq_ptr_same w _ Tryz.underlying67 hj]
  go_wp2
  go_end0
  exact ⟨rfl, rfl⟩
set_option maxHeartbeats 1000000 in
set_option maxRecDepth 100000 in
theorem check_fresh (b : Nat) (w : World) (h0 : w.cell? ⟨b, 0, none⟩ = some (.pointer none)) (hsh : w.shape? b = some (70, 2)) (hfz : w.frozen? ⟨b, 0, none⟩ = false) :
    Calls Tryz.prog 77 #[.pointer (some ⟨b, 0, none⟩)] w fun e w' => e = .returned (.tuple #[]) ∧ w' = w.setCell ⟨b, 0, none⟩ (.pointer (some ⟨b, 0, none⟩)) := by
  obtain ⟨j, hj, hjs⟩ := Option.map_eq_some_iff.1 size59
  go_enter Tryz.func77, Tryz.ntmps77
  go_wp2
  rw [Lib.run_to_unsafe w ⟨b, 0, none⟩ Tryz.underlying67 Tryz.underlying170 hj (by rw [hjs]; decide) hsh (Nat.zero_lt_succ 1)]
  simp only [Result.andThen]
  rw [Oper.upon_value]
  go_wp2
  rw [run_callFunc_extern Tryz.func98 (by kernel_rfl) (by kernel_rfl) (by kernel_rfl) (e := Extern.AbiNoEscape.same) (by kernel_rfl)]
  rw [Lib.run_noEscape]
  simp only [Result.andThen]
  rw [Oper.upon_value]
  go_wp2
  rw [Lib.run_from_unsafe w ⟨b, 0, none⟩ Tryz.underlying170 Tryz.underlying67 hj hsh lies59]
  simp only [Result.andThen]
  rw [Oper.upon_value]
  go_wp2
  go_end0
  exact ⟨rfl, rfl⟩
theorem check_any (B b : Nat) (bs : List Value) (w : World) (h : Lib.IsBuilder 70 5 B b bs w) :
    Calls Tryz.prog 77 #[.pointer (some ⟨b, 0, none⟩)] w fun e w' => e = .returned (.tuple #[]) ∧ (Lib.BuilderAt 70 5 B b (.pointer (some ⟨b, 0, none⟩)) bs w' ∧ Kp B b w w') := by
  rcases h with h | h
  · refine (check_fresh b w h.cell0 h.shape h.frozen0).mono ?_
    rintro e w' ⟨rfl, rfl⟩
    exact ⟨rfl, h.used _, (Below.refl B w).setCell (p := ⟨b, 0, none⟩) h.1 _, (Lib.OthersKept.refl _ _ w).setCell ⟨b, 0, none⟩ rfl _⟩
  · refine (check_used b w h.cell0).mono ?_
    rintro e w' ⟨rfl, rfl⟩
    exact ⟨rfl, h, Kp.refl B b _⟩
set_option maxHeartbeats 2000000 in
set_option maxRecDepth 100000 in
theorem put_byte (B b : Nat) (bs : List Value) (c : Int) (w : World) (h : Lib.IsBuilder 70 5 B b bs w) (hlen : bs.length + 1 ≤ 140737488355328) (hBw : B ≤ w.heap.size) :
    Calls Tryz.prog 60 #[.pointer (some ⟨b, 0, none⟩), .int .u8 c] w fun e w' => e = .returned .nilIface ∧ (Lib.BuilderAt 70 5 B b (.pointer (some ⟨b, 0, none⟩)) (bs ++ [.int .u8 c]) w' ∧ Kp B b w w') := by
  obtain ⟨i0, hi, hz0, hz1, hz2⟩ := info_parts info5
  go_enter Tryz.func60, Tryz.ntmps60
  go_wp2_with (go_at_call 77; refine (check_any B b bs _ h).mono ?_)
  rintro e w1 ⟨rfl, h1, hb1⟩
  obtain ⟨hB, v, hbk, hown, hne⟩ := h1
  have c0 : w1.cell? ⟨b, 0, none⟩ = some (.pointer (some ⟨b, 0, none⟩)) := by rw [Lib.cell_of_heap hbk]; rfl
  have c1 : w1.cell? ⟨b, 1, none⟩ = some v := by rw [Lib.cell_of_heap hbk]; rfl
  go_wp2_with (at_builtin; refine wpList_append_own _ rfl _ _ 68 rfl B 5 i0 (.int .u8 0) 1 1 Tryz.underlying68 hi hz0 hz1 hz2 rfl (by decide) _ _ _ rfl (hown.alloc _) ⟨w1.heap.size, 0, none⟩ 1 1 [.int .u8 c] rfl rfl ?c1 ?c2 ?c3 ?c4 ?c5 ?_)
  case c1 =>
    intro j u hj
    match j, hj with
    | 0, hj => simp at hj; subst hj; simp [Addr.add]
  case c2 => intro u hu; simp at hu; subst hu; rfl
  case c3 => unfold maxLen; omega
  case c4 => omega
  case c5 => have := hb1.size; simp; omega
  intro v' w2 hown' hgrow _
  have hlt : b < w1.heap.size := by
    rcases Nat.lt_or_ge b w1.heap.size with h' | h'
    · exact h'
    · simp [Array.getElem?_eq_none h'] at hbk
  have hb2 : w2.heap[b]? = some (.cells #[.pointer (some ⟨b, 0, none⟩), v] 70 (0, 0)) := by
    rw [hgrow.block b (by simp; omega) (fun e => hne e.symm), Lib.alloc_old w1 _ b hlt]
    exact hbk
  have d0 : w2.cell? ⟨b, 0, none⟩ = some (.pointer (some ⟨b, 0, none⟩)) := by rw [Lib.cell_of_heap hb2]; rfl
  have d1 : w2.cell? ⟨b, 1, none⟩ = some v := by rw [Lib.cell_of_heap hb2]; rfl
  have f1 : w2.frozen? ⟨b, 1, none⟩ = false := Lib.frozen_of_heap hb2 1
  obtain ⟨g, cap, rfl⟩ : ∃ g cap, v' = .slice (some ⟨g, 0, none⟩) (bs.length + 1) cap := by
    rcases hown'.2 with ⟨_, h0⟩ | ⟨g, cap, cur, hv, _⟩
    · omega
    · exact ⟨g, cap, hv⟩
  go_wp2
  go_ret
  refine ⟨rfl, ?_, ?_⟩
  · exact Lib.BuilderAt.put (T := 70) (e := 5) hB hb2 (bs' := bs ++ [.int .u8 c]) (by simpa using hown') (by decide)
  · refine ⟨((hb1.1.alloc (by have := hb1.size; omega) _).grown hgrow (by have := hb1.size; simp; omega) (fun k hk => (hown.lt k hk).1)).setCell (p := ⟨b, 1, none⟩) hB _, ?_⟩
    exact ((hb1.2.alloc _).grown hgrow (owns_kind (hown.alloc _))).setCell ⟨b, 1, none⟩ rfl _
set_option maxHeartbeats 2000000 in
set_option maxRecDepth 100000 in
theorem put_string (B b : Nat) (bs : List Value) (s : ByteArray) (w : World) (h : Lib.IsBuilder 70 5 B b bs w) (hlen : bs.length + s.size ≤ 140737488355328) (hBw : B ≤ w.heap.size) :
    Calls Tryz.prog 46 #[.pointer (some ⟨b, 0, none⟩), .string s] w fun e w' => e = .returned (.tuple #[.int .i64 s.size, .nilIface]) ∧ (Lib.BuilderAt 70 5 B b (.pointer (some ⟨b, 0, none⟩)) (bs ++ Lib.strCells s) w' ∧ Kp B b w w') := by
  obtain ⟨i0, hi, hz0, hz1, hz2⟩ := info_parts info5
  go_enter Tryz.func46, Tryz.ntmps46
  go_wp2_with (go_at_call 77; refine (check_any B b bs _ h).mono ?_)
  rintro e w1 ⟨rfl, h1, hb1⟩
  obtain ⟨hB, v, hbk, hown, hne⟩ := h1
  have c0 : w1.cell? ⟨b, 0, none⟩ = some (.pointer (some ⟨b, 0, none⟩)) := by rw [Lib.cell_of_heap hbk]; rfl
  have c1 : w1.cell? ⟨b, 1, none⟩ = some v := by rw [Lib.cell_of_heap hbk]; rfl
  go_wp2_with (at_builtin; refine Lib.wpList_append_own_string _ rfl _ _ 68 9 rfl B 5 i0 Tryz.underlying68 Tryz.underlying9 hi hz0 hz1 hz2 _ _ _ rfl hown s rfl ?c3 ?c4 ?c5 ?_)
  case c3 => unfold maxLen; omega
  case c4 => omega
  case c5 => have := hb1.size; omega
  intro v' w2 hown' hgrow _
  have hlt : b < w1.heap.size := by
    rcases Nat.lt_or_ge b w1.heap.size with h' | h'
    · exact h'
    · simp [Array.getElem?_eq_none h'] at hbk
  have hb2 : w2.heap[b]? = some (.cells #[.pointer (some ⟨b, 0, none⟩), v] 70 (0, 0)) := by
    rw [hgrow.block b hlt (fun e => hne e.symm)]
    exact hbk
  have d0 : w2.cell? ⟨b, 0, none⟩ = some (.pointer (some ⟨b, 0, none⟩)) := by rw [Lib.cell_of_heap hb2]; rfl
  have d1 : w2.cell? ⟨b, 1, none⟩ = some v := by rw [Lib.cell_of_heap hb2]; rfl
  have f1 : w2.frozen? ⟨b, 1, none⟩ = false := Lib.frozen_of_heap hb2 1
  obtain ⟨ao, n', cap, rfl⟩ : ∃ ao n' cap, v' = .slice ao n' cap := by
    rcases hown'.2 with ⟨hv, _⟩ | ⟨g, cap, cur, hv, _⟩
    · exact ⟨_, _, _, hv⟩
    · exact ⟨_, _, _, hv⟩
  go_wp2
  go_ret2
  refine ⟨rfl, ?_, ?_⟩
  · exact Lib.BuilderAt.put (T := 70) (e := 5) hB hb2 (bs' := bs ++ Lib.strCells s) (by simpa [Lib.strCells_length] using hown') (by decide)
  · refine ⟨(hb1.1.grown hgrow (by have := hb1.size; omega) (fun k hk => (hown.lt k hk).1)).setCell (p := ⟨b, 1, none⟩) hB _, ?_⟩
    exact (hb1.2.grown hgrow (owns_kind hown)).setCell ⟨b, 1, none⟩ rfl _
end Go.Proofs.YtpnigkjmofhmbabGreat.Builder
end
section
namespace Go.Proofs.YtpnigkjmofhmbabGreat.Fix
open Go.RowKit
open Go.Proofs.YtpnigkjmofhmbabGreat.FixMath
set_option linter.unusedVariables false

theorem hid_of {p : Prop} (h : p) : Hid p := h
theorem ret_si {a b : ByteArray} {c d : Int} (h1 : a = b) (h2 : c = d) : Ending.returned (.tuple #[.string a, .int .i64 c]) = .returned (.tuple #[.string b, .int .i64 d]) := by rw [h1, h2]
theorem info5 : (Tryz.prog.info? 5).map (fun i => (i.zero, i.size, i.bytes)) = some (some (.int .u8 0), 1, 1) := by kernel_rfl
theorem made_row (u : Int) (n : Nat) : (madeCells #[Value.int .u8 0] n).toList = rowK u n 0 := by
  rw [rowK_zero]; exact toList_madeCells_one _ n
theorem bytes_of_row {w : World} {B base : Nat} {u : Int} {n cap : Nat} (h : w.ownsRow base 5 1 (.slice (some ⟨B, 0, none⟩) n cap) n (rowC u n)) : Lib.Bytes w B 0 ⟨(leY u n).toArray⟩ := by
  intro i hi
  have hi' : i < n := by rw [size_of, leY_len] at hi; exact hi
  rw [Nat.zero_add, h.cellAt i (by omega), rowC_get u n i hi']
  have : (⟨(leY u n).toArray⟩ : ByteArray)[i] = (leY u n)[i]'(by rw [leY_len]; exact hi') := rfl
  rw [this, leY_toNat]
theorem conv_row {w : World} {B base : Nat} {u : Int} {n cap : Nat} (h : w.ownsRow base 5 1 (.slice (some ⟨B, 0, none⟩) n cap) n (rowC u n)) :
    (convert 68 9 (.slice (some ⟨B, 0, none⟩) n cap)).run Tryz.prog w = .ok (.string ⟨(leY u n).toArray⟩) w := by
  have := Lib.run_convert_whole (P := Tryz.prog) w 68 5 9 Tryz.underlying68 Tryz.underlying5 Tryz.underlying9 B 0 _ (bytes_of_row h) cap
  rwa [size_of, leY_len] at this
theorem step_row {w wr : World} {u : Int} {n k : Nat} (hown : wr.ownsRow w.heap.size 5 1 (.slice (some ⟨w.heap.size, 0, none⟩) n n) n (rowK u n k)) (hnx : Below w.heap.size w wr) :
    (wr.setCell ⟨w.heap.size, k, none⟩ (.int .u8 (u / 2 ^ (8 * k) % 256))).ownsRow w.heap.size 5 1 (.slice (some ⟨w.heap.size, 0, none⟩) n n) n (rowK u n (k + 1)) ∧
      Below w.heap.size w (wr.setCell ⟨w.heap.size, k, none⟩ (.int .u8 (u / 2 ^ (8 * k) % 256))) := by
  have h := hown.stored k (.int .u8 (bt u k))
  rw [rowK_succ] at h
  exact ⟨h.1, hnx.setCell (Nat.le_refl _) _⟩

set_option maxHeartbeats 1000000 in
set_option maxRecDepth 100000 in
theorem fix_ok (u : Int) (n : Nat) (w : World) (hu0 : 0 ≤ u) (hu : u ≤ 18446744073709551615) (h1 : 1 ≤ n) (h8 : n ≤ 8) (hf : (u / 2 ^ (8 * n) != 0) = false) :
    Calls Tryz.prog 76 #[.int .u64 u, .int .i64 n] w fun e w' => e = .returned (.tuple #[.string ⟨(leY u n).toArray⟩, .int .i64 0]) ∧ Below w.heap.size w w' := by
  obtain ⟨i0, hi, hz0, hz1, hz2⟩ := info_parts info5
  go_enter Tryz.func76, Tryz.ntmps76
  go_wp2_with (at_make; refine wpList_make_full _ rfl _ _ 68 rfl w.heap.size 5 i0 (.int .u8 0) 1 Tryz.underlying68 hi hz0 hz1 _ _ _ _ n rfl rfl rfl rfl ?b2 ?b3 (Nat.le_refl _) ?_)
  case b2 => rw [hz2]; omega
  case b3 => unfold maxLen; omega
  intro w0 hown0 hgrow0
  rw [made_row u n] at hown0
  go_wp2
  go_loopw [24] (fun i wr => ∃ k : Nat, k ≤ n ∧ i = .int .i64 k ∧ wr.ownsRow w.heap.size 5 1 (.slice (some ⟨w.heap.size, 0, none⟩) n n) n (rowK u n k) ∧ Below w.heap.size w wr) (fun i _ => n - (intOf i).toNat)
  case atStart => exact ⟨0, Nat.zero_le _, rfl, hown0, (Below.refl _ _).grown hgrow0 (Nat.le_refl _) (fun k h => by cases h)⟩
  case round =>
    obtain ⟨k, hk, rfl, hown, hnx⟩ := hrel
    by_cases hlt : k < n
    · have hc := (hown.cellAt k (by omega)).trans (rowK_get u n k k hlt)
      have hz := hown.frozenAt k
      go_wp2
      exact ⟨⟨k + 1, hlt, by go_num, step_row hown hnx⟩, by simp [intOf]; omega⟩
    · have hkn : k = n := by omega
      subst hkn
      rw [rowK_end] at hown
      have hconv := conv_row hown
      go_wp2
      go_ret2
      exact ⟨rfl, hnx⟩

set_option maxHeartbeats 1000000 in
set_option maxRecDepth 100000 in
theorem fix_over (u : Int) (n : Nat) (w : World) (hu0 : 0 ≤ u) (hu : u ≤ 18446744073709551615) (h1 : 1 ≤ n) (h8 : n ≤ 8) (hf : (u / 2 ^ (8 * n) != 0) = true) :
    Calls Tryz.prog 76 #[.int .u64 u, .int .i64 n] w fun e w' => e = .returned (.tuple #[.string ByteArray.empty, .int .i64 12]) ∧ Below w.heap.size w w' := by
  go_enter Tryz.func76, Tryz.ntmps76
  go_wp2
  go_ret2
  exact ⟨rfl, Below.refl _ _⟩

set_option maxHeartbeats 1000000 in
set_option maxRecDepth 100000 in
theorem fix_no (u n : Int) (w : World) (h : n < 1 ∨ 8 < n) :
    Calls Tryz.prog 76 #[.int .u64 u, .int .i64 n] w fun e w' => e = .returned (.tuple #[.string ByteArray.empty, .int .i64 12]) ∧ Below w.heap.size w w' := by
  rcases h with h | h
  all_goals
    go_enter Tryz.func76, Tryz.ntmps76
    go_wp2
    go_ret2
    exact ⟨rfl, Below.refl _ _⟩

theorem step_app {w wr w1 : World} {u y : Int} {k : Nat} {v v' : Value} {c : Value} (HY : Hid (y = u / 2 ^ (8 * k))) (hown : wr.ownsRow w.heap.size 5 1 v k (rowC u k)) (hnx : Below w.heap.size w wr)
    (hown' : w1.ownsRow w.heap.size 5 1 v' (k + 1) (rowC u k ++ [Value.int .u8 (y % 256)])) (hgrow : (wr.alloc (.cells #[c] 5)).grownBy w1 v.ownBlock) :
    w1.ownsRow w.heap.size 5 1 v' (k + 1) (rowC u (k + 1)) ∧ Below w.heap.size w w1 := by
  have e : y % 256 = bt u k := by rw [HY.out]; rfl
  rw [e, rowC_succ] at hown'
  have hs := hnx.size
  exact ⟨hown', (hnx.alloc hs _).grown hgrow (by simp; omega) (fun j hj => (hown.lt j hj).1)⟩
theorem own_shape {w : World} {base : Nat} {v : Value} {n : Nat} {xs : List Value} (h : w.ownsRow base 5 1 v n xs) (hn : 1 ≤ n) : ∃ g cap, v = .slice (some ⟨g, 0, none⟩) n cap := by
  rcases h.2 with ⟨_, e⟩ | ⟨g, cap, cur, e, _⟩
  · omega
  · exact ⟨g, cap, e⟩
theorem hid_next {u y : Int} {k : Nat} (HY : Hid (y = u / 2 ^ (8 * k))) : Hid (y / 256 = u / 2 ^ (8 * (k + 1))) := by
  show y / 256 = _
  rw [HY.out, quo_step]
def fixS (u : Int) (n : Nat) : ByteArray := if (u / 2 ^ (8 * n) != 0) = true then ByteArray.empty else ⟨(leY u n).toArray⟩
def fixE (u : Int) (n : Nat) : Int := if (u / 2 ^ (8 * n) != 0) = true then 12 else 0

theorem fix_any (u : Int) (n : Nat) (w : World) (hu0 : 0 ≤ u) (hu : u ≤ 18446744073709551615) (h1 : 1 ≤ n) (h8 : n ≤ 8) :
    Calls Tryz.prog 76 #[.int .u64 u, .int .i64 n] w fun e w' => e = .returned (.tuple #[.string (fixS u n), .int .i64 (fixE u n)]) ∧ Below w.heap.size w w' := by
  unfold fixS fixE
  cases h : (u / 2 ^ (8 * n) != 0)
  · exact fix_ok u n w hu0 hu h1 h8 h
  · exact fix_over u n w hu0 hu h1 h8 h
end Go.Proofs.YtpnigkjmofhmbabGreat.Fix
end
section
namespace Go.Proofs.YtpnigkjmofhmbabGreat.Write
open Go.RowKit Go.Maps
open Go.Proofs.YtpnigkjmofhmbabGreat.SetMath
open Go.Proofs.YtpnigkjmofhmbabGreat.BytesMath
open Go.Proofs.YtpnigkjmofhmbabGreat.FixMath
open Go.Proofs.YtpnigkjmofhmbabGreat.ValueMath
open Go.Proofs.YtpnigkjmofhmbabGreat.Base
open Go.Proofs.YtpnigkjmofhmbabGreat.Vals
open Go.Proofs.YtpnigkjmofhmbabGreat.Builder (Kp)
set_option linter.unusedVariables false
set_option linter.unusedSimpArgs false

abbrev ptr (b : Nat) : Value := .pointer (some ⟨b, 0, none⟩)
def BA (B b : Nat) (l : Bs) (w : World) : Prop := Lib.BuilderAt 70 5 B b (ptr b) (Lib.byteCells l) w
theorem BA.below {B b : Nat} {l : Bs} {w w' : World} (h : BA B b l w) (hb : Below w.heap.size w w') : BA B b l w' := by
  obtain ⟨h1, v, h2, h3, h4⟩ := h
  exact ⟨h1, v, (hb.block b (lt_of h2)).trans h2, FRow.row_below h3 hb, h4⟩
theorem kp_of {B b : Nat} {w w' : World} (h : Below w.heap.size w w') (hB : B ≤ w.heap.size) : Kp B b w w' := ⟨h.mono hB, fun k o hk _ _ => (h.block k (lt_of hk)).trans hk⟩
theorem cells_mk (t : Bs) : Lib.strCells (mk t) = Lib.byteCells t := rfl
theorem put_call (B b : Nat) (l t : Bs) (w : World) (h : BA B b l w) (hlen : l.length + t.length ≤ 140737488355328) (hB : B ≤ w.heap.size) :
    Calls Tryz.prog 46 #[ptr b, .string (mk t)] w fun e w' => e = .returned (.tuple #[.int .i64 (mk t).size, .nilIface]) ∧ BA B b (l ++ t) w' ∧ Kp B b w w' := by
  refine (Builder.put_string B b (Lib.byteCells l) (mk t) w (Or.inr h) (by rw [Lib.byteCells_length, mk_size]; exact hlen) hB).mono ?_
  rintro e w' ⟨h1, h2, h3⟩
  rw [cells_mk, ← Lib.byteCells_append] at h2
  exact ⟨h1, h2, h3⟩
theorem byte_call (B b : Nat) (l : Bs) (c : UInt8) (w : World) (h : BA B b l w) (hlen : l.length + 1 ≤ 140737488355328) (hB : B ≤ w.heap.size) :
    Calls Tryz.prog 60 #[ptr b, .int .u8 c.toNat] w fun e w' => e = .returned .nilIface ∧ BA B b (l ++ [c]) w' ∧ Kp B b w w' := by
  refine (Builder.put_byte B b (Lib.byteCells l) c.toNat w (Or.inr h) (by rw [Lib.byteCells_length]; exact hlen) hB).mono ?_
  rintro e w' ⟨h1, h2, h3⟩
  have e1 : Lib.byteCells l ++ [.int .u8 c.toNat] = Lib.byteCells (l ++ [c]) := by rw [Lib.byteCells_append]; rfl
  rw [e1] at h2
  exact ⟨h1, h2, h3⟩
theorem fits (u n : Nat) (h : u < 256 ^ n) : (((u : Int) / 2 ^ (8 * n)) != 0) = false := by
  rw [pow256] at h
  have e : ((u : Int) / 2 ^ (8 * n)) = ((u / 2 ^ (8 * n) : Nat) : Int) := by simp
  rw [e, Nat.div_eq_of_lt h]
  rfl
set_option maxHeartbeats 1000000 in
set_option maxRecDepth 100000 in
theorem num_call (B b : Nat) (l : Bs) (u n : Nat) (w : World) (h : BA B b l w) (h1 : 1 ≤ n) (h8 : n ≤ 8) (hu : u < 256 ^ n) (hlen : l.length + n ≤ 140737488355328) (hB : B ≤ w.heap.size) :
    Calls Tryz.prog 177 #[ptr b, .int .u64 u, .int .i64 n] w fun e w' => e = .returned (.tuple #[]) ∧ BA B b (l ++ leY u n) w' ∧ Kp B b w w' := by
  have hp : 256 ^ n ≤ 256 ^ 8 := Nat.pow_le_pow_right (by omega) h8
  have HF := hid_of (Fix.fix_ok u n w (by omega) (by omega) h1 h8 (fits u n hu))
  have HP := hid_of fun (W : World) (hW : Below w.heap.size w W) => put_call B b l (leY u n) W (h.below hW) (by rw [leY_len]; exact hlen) (Nat.le_trans hB hW.size)
  rw [show (⟨(leY (u : Int) n).toArray⟩ : ByteArray) = mk (leY u n) from rfl] at HF
  have HK := hid_of fun (W : World) (hW : Below w.heap.size w W) => kp_of (b := b) hW hB
  generalize (((mk (leY u n)).size : Nat) : Int) = M at *
  generalize mk (leY u n) = X at *
  clear h hp
  go_enter Tryz.func177, Tryz.ntmps177
  go_wp2_with fail
  refine HF.out.mono ?_
  rintro e w1 ⟨rfl, b1⟩
  have H1 := hid_of (HP.out w1 b1)
  have K1 := hid_of (HK.out w1 b1)
  clear b1 HP HK HF
  go_wp2_with fail
  refine H1.out.mono ?_
  rintro e w2 ⟨rfl, d2, k2⟩
  have H2 := hid_of (And.intro d2 (K1.out.trans k2))
  clear d2 k2 H1 K1
  go_wp2_with fail
  go_end0
  exact ⟨rfl, H2.out⟩
theorem bl {B b : Nat} {w w' : World} (h : Kp B b w w') (hB : B ≤ w.heap.size) : B ≤ w'.heap.size := Nat.le_trans hB h.size
set_option maxHeartbeats 1000000 in
set_option maxRecDepth 100000 in
theorem twr_call (B b : Nat) (l t : Bs) (w : World) (h : BA B b l w) (ht : t.length < 4294967296) (hlen : l.length + 4 + t.length ≤ 140737488355328) (hB : B ≤ w.heap.size) :
    Calls Tryz.prog 176 #[.string (mk t), ptr b] w fun e w' => e = .returned (.tuple #[]) ∧ BA B b (l ++ encT t) w' ∧ Kp B b w w' := by
  have HN := hid_of (num_call B b l t.length 4 w h (by decide) (by decide) (by simpa using ht) (by omega) hB)
  have HP := hid_of fun (W : World) (hW : BA B b (l ++ leY (t.length : Int) 4) W) (hBW : B ≤ W.heap.size) => put_call B b _ t W hW (by rw [List.length_append, leY_len]; exact hlen) hBW
  rw [List.append_assoc, show leY (t.length : Int) 4 ++ t = encT t from rfl] at HP
  have hs := mk_size t
  rw [← hs] at HN HP ht
  generalize mk t = X at *
  have e1 : IntKind.u64.wrap (X.size : Int) = (X.size : Int) := by rw [IntKind.wrap_u64]; omega
  clear h hs
  go_enter Tryz.func176, Tryz.ntmps176
  go_wp2_with fail
  refine HN.out.mono ?_
  rintro e w1 ⟨rfl, d1, k1⟩
  have H1 := hid_of (HP.out w1 d1 (bl k1 hB))
  have K1 := hid_of k1
  clear d1 k1 HP HN
  go_wp2_with fail
  refine H1.out.mono ?_
  rintro e w2 ⟨rfl, d2, k2⟩
  have H2 := hid_of (And.intro d2 (K1.out.trans k2))
  clear d2 k2 H1 K1
  go_wp2_with fail
  go_end0
  exact ⟨rfl, H2.out⟩
set_option maxRecDepth 100000 in
theorem twt_call (t : Bs) (w : World) (hl : t.length ≤ 140737488355328) : Calls Tryz.prog 175 #[.string (mk t)] w fun e w' => e = .returned (.int .i64 ((encT t).length : Nat)) ∧ w' = w := by
  have hs := mk_size t
  have e1 : (encT t).length = 4 + (mk t).size := by unfold encT; rw [List.length_append, len_le4, hs]
  rw [e1]
  rw [← hs] at hl
  generalize mk t = X at *
  clear hs e1
  have w1 : IntKind.i64.wrap (4 + (X.size : Int)) = 4 + (X.size : Int) := IntWalk.i64_in _ (by omega)
  go_enter Tryz.func175, Tryz.ntmps175
  go_wp2
  go_ret
  exact ⟨by simp, rfl⟩
theorem flat_take {α : Type} (f : α → Bs) (l : List α) (k : Nat) (h : k < l.length) : (l.take (k + 1)).flatMap f = (l.take k).flatMap f ++ f l[k] := by
  rw [List.take_succ_eq_append_getElem h, List.flatMap_append]
  simp
theorem flat_len {α : Type} (f : α → Bs) (l : List α) (k : Nat) : ((l.take k).flatMap f).length ≤ (l.flatMap f).length := by
  have : l.flatMap f = (l.take k).flatMap f ++ (l.drop k).flatMap f := by rw [← List.flatMap_append, List.take_append_drop]
  rw [this, List.length_append]
  omega
theorem sl_kp {B b : Nat} {w w' : World} {v : Value} {l : List El} (h : SL (fun k => k < B) w v l) (k : Kp B b w w') : SL (fun k => k < B) w' v l := h.keep fun i _ hi => k.1.block i hi
theorem encT_len (t : Bs) : (encT t).length = 4 + t.length := by unfold encT; rw [List.length_append, len_le4]
theorem sl_at {G : Nat → Prop} {w : World} {a : Option Addr} {L c : Nat} {l : List El} (h : SL G w (.slice a L c) l) {j : Nat} (hj : j < l.length) : ∃ g o, a = some ⟨g, o, none⟩ ∧ w.cell? ⟨g, o + j, none⟩ = some (.string (mk l[j])) := by
  obtain ⟨a1, c1, e, _, hr⟩ := h
  injection e with e1 _ _
  subst e1
  obtain ⟨g, o, rfl, _, q⟩ := Rd.get hr (by omega)
  exact ⟨g, o, rfl, q j _ (List.getElem?_eq_getElem hj)⟩
def LB {α : Type} (f : α → Bs) (l : List α) (k : Nat) (p : Bs) : Bs := p ++ (le4 l.length ++ (l.take k).flatMap f)
theorem LB_step {α : Type} (f : α → Bs) (l : List α) (k : Nat) (p : Bs) (h : k < l.length) : LB f l k p ++ f l[k] = LB f l (k + 1) p := by
  unfold LB
  rw [flat_take f l k h]
  simp [List.append_assoc]
theorem LB_end {α : Type} (f : α → Bs) (l : List α) (p : Bs) : LB f l l.length p = p ++ encC f l := by unfold LB encC; rw [List.take_length]
theorem LB_len {α : Type} (f : α → Bs) (l : List α) (k : Nat) (p : Bs) (h : k < l.length) : (LB f l k p).length + (f l[k]).length ≤ p.length + (encC f l).length := by
  have h1 := flat_len f l (k + 1)
  rw [flat_take f l k h, List.length_append] at h1
  unfold LB encC
  simp only [List.length_append, len_le4] at h1 ⊢
  omega
theorem LB_zero {α : Type} (f : α → Bs) (l : List α) (p : Bs) : LB f l 0 p = p ++ leY (l.length : Int) 4 := by unfold LB le4; simp

set_option maxHeartbeats 2000000 in
set_option maxRecDepth 100000 in
theorem lwr_call (B b : Nat) (p : Bs) (l : List Bs) (v : Value) (w : World) (h : BA B b p w) (hv : SL (fun k => k < B) w v l) (hn : l.length < 4294967296) (ht : ∀ t ∈ l, t.length < 4294967296) (hlen : p.length + (encC encT l).length ≤ 140737488355328) (hB : B ≤ w.heap.size) :
    Calls Tryz.prog 180 #[v, ptr b] w fun e w' => e = .returned (.tuple #[]) ∧ BA B b (p ++ encC encT l) w' ∧ Kp B b w w' := by
  have HN := hid_of (num_call B b p l.length 4 w h (by decide) (by decide) (by simpa using hn) (by unfold encC at hlen; rw [List.length_append, len_le4] at hlen; omega) hB)
  have HT := hid_of ht
  have HL := hid_of hlen
  have HV := hid_of hv
  rw [← LB_zero encT l p] at HN
  obtain ⟨a, c, rfl, hc, hr⟩ := hv
  obtain ⟨L, hL⟩ : ∃ L, L = l.length := ⟨_, rfl⟩
  have HLL := hid_of hL
  rw [← hL] at hn HV HN ⊢
  have e1 : IntKind.u64.wrap (L : Int) = (L : Int) := by rw [IntKind.wrap_u64]; omega
  clear h hr hc ht hlen hL
  go_enter Tryz.func180, Tryz.ntmps180
  go_wp2_with fail
  refine HN.out.mono ?_
  rintro e w1 ⟨rfl, d1, k1⟩
  have R0 := hid_of (And.intro d1 k1)
  clear d1 k1 HN
  go_wp2_with fail
  go_loopg [13] L (fun g s3 wx => ∃ j : Nat, j ≤ L ∧ L ≤ j + g ∧ s3 = .int .i64 (j : Int) ∧ Hid (BA B b (LB encT l j p) wx ∧ Kp B b w wx))
  case atStart => exact ⟨0, by omega, by omega, rfl, R0⟩
  case round =>
    obtain ⟨j, hj, hg, rfl, R⟩ := hrel
    by_cases hlt : j < L
    · obtain ⟨g', rfl⟩ : ∃ g', gk = g' + 1 := ⟨gk - 1, by omega⟩
      have hjl : j < l.length := by rw [← HLL.out]; exact hlt
      obtain ⟨g1, o1, rfl, c1⟩ := sl_at (sl_kp HV.out R.out.2) hjl
      have hbd := LB_len encT l j p hjl
      have HC := hid_of (twr_call B b (LB encT l j p) l[j] wr R.out.1 (HT.out _ (List.getElem_mem hjl)) (by have := HL.out; rw [encT_len] at hbd; omega) (bl R.out.2 hB))
      rw [LB_step encT l j p hjl] at HC
      have w1 : IntKind.i64.wrap ((j : Int) + 1) = (j : Int) + 1 := IntWalk.i64_in _ (by omega)
      have dd : (j : Int) < (L : Int) := by omega
      clear hbd
      generalize mk l[j] = X at *
      go_wp2_with fail
      refine HC.out.mono ?_
      rintro e w2 ⟨rfl, d2, k2⟩
      have R2 := hid_of (And.intro d2 (R.out.2.trans k2))
      clear d2 k2 HC
      go_wp2_with fail
      go_roundg g'
      case measure => omega
      case rel => exact ⟨j + 1, by omega, by omega, by simp, R2⟩
    · obtain rfl : j = L := by omega
      have dd : ¬ (j : Int) < (j : Int) := by omega
      have R2 : Hid (BA B b (p ++ encC encT l) wr ∧ Kp B b w wr) := hid_of (by have := R.out; rw [HLL.out, LB_end] at this; exact this)
      go_wp2_with fail
      go_end0
      exact ⟨rfl, R2.out⟩
set_option maxRecDepth 100000 in
theorem swr_call (B b : Nat) (p : Bs) (l : List Bs) (v : Value) (w : World) (h : BA B b p w) (hv : SL (fun k => k < B) w v l) (hn : l.length < 4294967296) (ht : ∀ t ∈ l, t.length < 4294967296) (hlen : p.length + (encC encT l).length ≤ 140737488355328) (hB : B ≤ w.heap.size) :
    Calls Tryz.prog 187 #[v, ptr b] w fun e w' => e = .returned (.tuple #[]) ∧ BA B b (p ++ encC encT l) w' ∧ Kp B b w w' := by
  have HC := hid_of (lwr_call B b p l v w h hv hn ht hlen hB)
  obtain ⟨a, c, rfl, hc, hr⟩ := hv
  clear h hr hc ht hlen
  go_enter Tryz.func187, Tryz.ntmps187
  go_wp2_with fail
  refine HC.out.mono ?_
  rintro e w2 ⟨rfl, d2, k2⟩
  have R2 := hid_of (And.intro d2 k2)
  clear d2 k2 HC
  go_wp2_with fail
  go_end0
  exact ⟨rfl, R2.out⟩
end Go.Proofs.YtpnigkjmofhmbabGreat.Write
end
