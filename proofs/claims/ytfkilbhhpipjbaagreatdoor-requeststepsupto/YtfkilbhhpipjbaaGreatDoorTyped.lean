/- typed lines, and the first line of a thing. -/
import Derived.Test.YtfkilbhhpipjbaaGreatDoorSplitC
namespace Go.Proofs.YtfkilbhhpipjbaaGreatDoor.Typed
open Go.RowKit
open Go.Proofs.YtfkilbhhpipjbaaGreatDoor.TextMath
open Go.Proofs.YtfkilbhhpipjbaaGreatDoor.ReqMath
open Go.Proofs.YtfkilbhhpipjbaaGreatDoor.Base
open Go.Proofs.YtfkilbhhpipjbaaGreatDoor.Line
open Go.Proofs.YtfkilbhhpipjbaaGreatDoor.Small
open Go.Proofs.YtfkilbhhpipjbaaGreatDoor.Append
open Go.Proofs.YtfkilbhhpipjbaaGreatDoor.Bulk
open Go.Proofs.YtfkilbhhpipjbaaGreatDoor.Bulk2
open Go.Proofs.YtfkilbhhpipjbaaGreatDoor.BulkAny
open Go.Proofs.YtfkilbhhpipjbaaGreatDoor.SplitC
set_option linter.unusedVariables false

set_option maxRecDepth 100000 in
theorem long_call (x : ByteArray) (b p : Nat) (L : Lim) (w : World) (h1 : w.cell? ⟨p, 0, none⟩ = some (.pointer (some ⟨b, 0, none⟩))) (h2 : w.cell? ⟨b, 0, none⟩ = some (.int .i64 L.bulk)) :
    Calls Tryz.prog 99 #[.string x, .pointer (some ⟨p, 0, none⟩)] w fun e w' => e = .returned (.bool (decide (L.bulk < x.size))) ∧ w' = w := by
  go_enter Tryz.func99, Tryz.ntmps99
  go_wp2_with fail
  go_ret
  exact ⟨rfl, rfl⟩
def longB (L : Lim) (t : List UInt8) : Bool := decide (L.bulk < t.length)
theorem ws_cell {w : World} {v : Value} {ws : List (List UInt8)} (h : WS w v ws) {g n cap : Nat} (hv : v = .slice (some ⟨g, 0, none⟩) n cap) (k : Nat) (hk : k < ws.length) : w.cell? ⟨g, k, none⟩ = some (.string (mk (ws[k]'hk))) := by
  have := World.ownsRow.cells h (g := g) (by rw [hv]; rfl) k (.string (mk (ws[k]'hk))) (by
    unfold strC
    rw [List.getElem?_map, List.getElem?_eq_getElem hk]
    rfl)
  rw [add_off, Nat.zero_add] at this
  exact this
theorem ws_form {w : World} {v : Value} {ws : List (List UInt8)} (h : WS w v ws) : (v = .slice none 0 0 ∧ ws = []) ∨ ∃ g cap, v = .slice (some ⟨g, 0, none⟩) ws.length cap := by
  rcases h.2 with ⟨hv, hn⟩ | ⟨g, cap, cur, hv, _⟩
  · exact Or.inl ⟨hv, List.length_eq_zero_iff.1 hn⟩
  · exact Or.inr ⟨g, cap, hv⟩
set_option maxHeartbeats 1000000 in
set_option maxRecDepth 100000 in
theorem index_call (b p : Nat) (L : Lim) (v : Value) (ws : List (List UInt8)) (w : World) (h : WS w v ws) (hl : ws.length ≤ 67108864) (h1 : w.cell? ⟨p, 0, none⟩ = some (.pointer (some ⟨b, 0, none⟩))) (h2 : w.cell? ⟨b, 0, none⟩ = some (.int .i64 L.bulk)) :
    Calls Tryz.prog 117 #[v, .func (.func 99) #[] #[.pointer (some ⟨p, 0, none⟩)]] w fun e w' => ∃ r : Int, e = .returned (.int .i64 r) ∧ decide (0 ≤ r) = ws.any (longB L) ∧ w' = w := by
  rcases ws_form h with ⟨rfl, rfl⟩ | ⟨g, cap, rfl⟩
  · clear h
    go_enter Tryz.func117, Tryz.ntmps117
    go_wp2_with fail
    go_loopg [8, 4, 5] 0 (fun g s8 _ _ wx => s8 = .int .i64 0 ∧ wx = w)
    case atStart => exact ⟨rfl, rfl⟩
    case round =>
      obtain ⟨rfl, rfl⟩ := hrel
      go_wp2_with fail
      go_ret
      exact ⟨-1, rfl, rfl, rfl⟩
  · have HC := hid_of (fun k hk => ws_cell h rfl k hk)
    have HL := hid_of (fun x => long_call x b p L w h1 h2)
    clear h h1 h2
    go_enter Tryz.func117, Tryz.ntmps117
    go_wp2_with fail
    go_loopg [8, 4, 5] ws.length (fun g s8 _ _ wx => ∃ k : Nat, k ≤ ws.length ∧ ws.length ≤ k + g ∧ s8 = .int .i64 k ∧ wx = w ∧ Hid ((ws.take k).any (longB L) = false))
    case atStart => exact ⟨0, by omega, by omega, rfl, rfl, rfl⟩
    case round =>
      obtain ⟨k, hk, hg, rfl, rfl, HN⟩ := hrel
      by_cases hlt : k < ws.length
      · obtain ⟨g', rfl⟩ : ∃ g', gk = g' + 1 := ⟨gk - 1, by omega⟩
        have hc := HC.out k hlt
        have ew : IntKind.i64.wrap ((k : Int) + 1) = (k : Int) + 1 := IntWalk.i64_in _ (by omega)
        have HT : Hid (ws.take (k + 1) = ws.take k ++ [ws[k]'hlt]) := by show _ = _; rw [List.take_succ_eq_append_getElem hlt]
        have hD : decide (L.bulk < (mk (ws[k]'hlt)).size) = longB L (ws[k]'hlt) := by
          unfold longB
          rw [mk_size]
        have HD := hid_of (HL.out (mk (ws[k]'hlt)))
        rw [hD] at HD
        have HA : Hid (longB L (ws[k]'hlt) = true → ws.any (longB L) = true) := fun h => List.any_eq_true.2 ⟨_, List.getElem_mem hlt, h⟩
        clear hD
        cases hb : longB L (ws[k]'hlt) with
        | false =>
          rw [hb] at HD
          have HN2 : Hid ((ws.take (k + 1)).any (longB L) = false) := by show _ = _; rw [HT.out, List.any_append, HN.out]; simp [hb]
          generalize mk (ws[k]'hlt) = X at hc HD
          clear hb HT HA
          go_wp2_with fail
          refine HD.out.mono ?_
          rintro e w1 ⟨rfl, rfl⟩
          go_wp2_with fail
          go_roundg g'
          case measure => omega
          case rel => exact ⟨k + 1, by omega, by omega, by rw [show ((k + 1 : Nat) : Int) = (k : Int) + 1 from by omega], rfl, HN2.out⟩
        | true =>
          rw [hb] at HD
          have HA2 := hid_of (HA.out hb)
          generalize mk (ws[k]'hlt) = X at hc HD
          clear hb HT HA
          go_wp2_with fail
          refine HD.out.mono ?_
          rintro e w1 ⟨rfl, rfl⟩
          go_wp2_with fail
          go_ret
          exact ⟨(k : Int), rfl, by rw [HA2.out]; exact decide_eq_true (by omega), rfl⟩
      · have HN2 : Hid (ws.any (longB L) = false) := by
          show _ = _
          have := HN.out
          rwa [List.take_of_length_le (by omega)] at this
        go_wp2_with fail
        go_ret
        exact ⟨-1, rfl, by rw [HN2.out]; rfl, rfl⟩
set_option maxRecDepth 100000 in
theorem any_call (b p : Nat) (L : Lim) (v : Value) (ws : List (List UInt8)) (w : World) (h : WS w v ws) (hl : ws.length ≤ 67108864) (h1 : w.cell? ⟨p, 0, none⟩ = some (.pointer (some ⟨b, 0, none⟩))) (h2 : w.cell? ⟨b, 0, none⟩ = some (.int .i64 L.bulk)) :
    Calls Tryz.prog 100 #[v, .func (.func 99) #[] #[.pointer (some ⟨p, 0, none⟩)]] w fun e w' => e = .returned (.bool (ws.any (longB L))) ∧ w' = w := by
  have H1 := hid_of (index_call b p L v ws w h hl h1 h2)
  clear h h1 h2
  go_enter Tryz.func100, Tryz.ntmps100
  go_wp2_with fail
  refine H1.out.mono ?_
  rintro e w1 ⟨r, rfl, hr, rfl⟩
  have HR := hid_of hr
  clear hr
  go_wp2_with fail
  go_ret
  exact ⟨by rw [← HR.out]; rfl, rfl⟩
def TEnd (w : World) (e : Ending) (w' : World) : Except (List UInt8) (List (List UInt8)) → Prop
  | .error wd => e = gaveUp wd ∧ Below w.heap.size w w'
  | .ok ws => ∃ v, e = .returned v ∧ WS w' v ws ∧ (∀ g, v.ownBlock = some g → w.heap.size ≤ g) ∧ Below w.heap.size w w'
theorem split_len : ∀ (N : Nat) (l : List UInt8), l.length ≤ N → ∀ ws, splitS l = some ws → ws.length ≤ l.length := by
  intro N
  induction N with
  | zero =>
    intro l hl ws h
    have : l = [] := List.length_eq_zero_iff.1 (by omega)
    subst this
    rw [split_nil rfl] at h
    cases h; simp
  | succ N ih =>
    intro l hl ws h
    cases hd : l.dropWhile isBlank with
    | nil => rw [split_nil hd] at h; cases h; simp
    | cons c t =>
      have hle : (c :: t).length ≤ l.length := by rw [← hd]; exact (List.dropWhile_suffix _).length_le
      cases hw : wordS (c :: t) with
      | none => rw [split_bad hd hw] at h; cases h
      | some p =>
        obtain ⟨x, n⟩ := p
        obtain ⟨n1, n2, _⟩ := word_bound rfl (drop_head hd) hw
        rw [split_word hd hw n1] at h
        cases hs : splitS ((c :: t).drop n) with
        | none => rw [hs] at h; cases h
        | some q =>
          rw [hs] at h
          cases h
          have := ih ((c :: t).drop n) (by rw [List.length_drop]; omega) q hs
          rw [List.length_drop] at this
          rw [List.length_cons]
          omega
set_option maxHeartbeats 2000000 in
set_option maxRecDepth 100000 in
theorem typed_call (b : Nat) (L : Lim) (lv : Value) (k : Nat) (wv : Value) (wanted read used : Nat) (ft : ByteArray) (x : ByteArray) (w : World) (h : RB b L lv k wv wanted read used ft w) (hz : x.size ≤ 67108864) (hh : Has w) (hC : C34 (bs x)) :
    Calls Tryz.prog 84 #[.pointer (some ⟨b, 0, none⟩), .string x] w fun e w' => TEnd w e w' (typedS L (bs x)) := by
  have hmf : ∀ (fn : Fn) (first cap : Array Value) (w : World), (Instr.makeFunc fn first cap).run Tryz.prog w = .ok (.func fn first cap) w := fun _ _ _ _ => rfl
  have hnot : ∀ (x : Bool) (w : World), (Op.unary .not (.bool x)).run Tryz.prog w = .ok (.bool (!x)) w := fun _ _ => rfl
  have H1 := hid_of (fun w1 (hb : Below w.heap.size w w1) => split_call x hz w1 (hh.later hb) hC)
  have H := hid_of h
  have HW : Hid (Below w.heap.size w (w.alloc (.cells #[.pointer (some ⟨b, 0, none⟩)] 41))) := (Below.refl _ w).alloc (Nat.le_refl _) _
  have HC0 : Hid ((w.alloc (.cells #[.pointer (some ⟨b, 0, none⟩)] 41)).heap[w.heap.size]? = some (.cells #[.pointer (some ⟨b, 0, none⟩)] 41 (0, 0))) := heap_alloc_new w _
  unfold typedS
  cases hs : splitS (bs x) with
  | none =>
    dsimp only
    rw [hs] at H1
    clear h hh hC hs
    go_enter Tryz.func84, Tryz.ntmps84
    go_wp2_with fail
    refine (H1.out _ HW.out).mono ?_
    rintro e w1 ⟨rfl, b1⟩
    have B1 : Hid (Below w.heap.size w w1) := HW.out.trans (b1.mono HW.out.size)
    clear b1
    go_wp2_with fail
    exact ⟨rfl, rfl, B1.out⟩
  | some ws =>
    dsimp only
    rw [hs] at H1
    have hwl : ws.length ≤ 67108864 := by have := split_len _ _ (Nat.le_refl _) ws hs; rw [len_bs] at this; omega
    clear h hh hC hs
    have key : ∀ w1 v, Below (w.alloc (.cells #[.pointer (some ⟨b, 0, none⟩)] 41)).heap.size (w.alloc (.cells #[.pointer (some ⟨b, 0, none⟩)] 41)) w1 → WS w1 v ws → Below w.heap.size w w1 ∧ w1.cell? ⟨w.heap.size, 0, none⟩ = some (.pointer (some ⟨b, 0, none⟩)) ∧ w1.cell? ⟨b, 1, none⟩ = some (.int .i64 L.args) ∧ Calls Tryz.prog 100 #[v, .func (.func 99) #[] #[.pointer (some ⟨w.heap.size, 0, none⟩)]] w1 fun e w' => e = .returned (.bool (ws.any (longB L))) ∧ w' = w1 := by
      intro w1 v b1 hv
      have B1 : Below w.heap.size w w1 := HW.out.trans (b1.mono HW.out.size)
      have r1 := rb_later H.out B1
      have c0 : w1.cell? ⟨w.heap.size, 0, none⟩ = some (.pointer (some ⟨b, 0, none⟩)) := by
        rw [Lib.cell_of_heap ((b1.block w.heap.size (lt_of HC0.out)).trans HC0.out)]
        rfl
      exact ⟨B1, c0, r1.cell 1, any_call b w.heap.size L v ws w1 hv hwl c0 (r1.cell 0)⟩
    have HK := hid_of key
    clear key
    have hany : ws.any (fun t => decide (L.bulk < t.length)) = ws.any (longB L) := rfl
    rw [hany]
    by_cases ha : L.args < ws.length
    · rw [if_pos (Or.inl ha)]
      have g1 : (L.args : Int) < (ws.length : Int) := by omega
      clear ha hany
      go_enter Tryz.func84, Tryz.ntmps84
      go_wp2_with fail
      refine (H1.out _ HW.out).mono ?_
      rintro e w1 ⟨v, rfl, hv, hvb, b1⟩
      obtain ⟨B1, c0, c1, _⟩ := HK.out w1 v b1 hv
      have hf : ∃ a c, v = .slice a ws.length c := by
        rcases ws_form hv with ⟨h1, h2⟩ | ⟨g, cap, h1⟩
        · exact ⟨none, 0, by rw [h1, h2]; rfl⟩
        · exact ⟨_, _, h1⟩
      obtain ⟨a, c, rfl⟩ := hf
      have HB := hid_of B1
      clear b1 hv hvb B1
      go_wp2_with fail
      exact ⟨rfl, rfl, HB.out⟩
    · have g1 : ¬ ((L.args : Int) < (ws.length : Int)) := by omega
      cases hb : ws.any (longB L) with
      | true =>
        rw [if_pos (Or.inr rfl)]
        rw [hb] at HK
        clear ha hany hb
        go_enter Tryz.func84, Tryz.ntmps84
        go_wp2_with fail
        refine (H1.out _ HW.out).mono ?_
        rintro e w1 ⟨v, rfl, hv, hvb, b1⟩
        obtain ⟨B1, c0, c1, H2⟩ := HK.out w1 v b1 hv
        have hf : ∃ a c, v = .slice a ws.length c := by
          rcases ws_form hv with ⟨h1, h2⟩ | ⟨g, cap, h1⟩
          · exact ⟨none, 0, by rw [h1, h2]; rfl⟩
          · exact ⟨_, _, h1⟩
        obtain ⟨a, c, rfl⟩ := hf
        have HB := hid_of B1
        have H2' := hid_of H2
        clear b1 hv hvb B1 H2
        go_wp2_with fail
        refine H2'.out.mono ?_
        rintro e w2 ⟨rfl, rfl⟩
        go_wp2_with fail
        exact ⟨rfl, rfl, HB.out⟩
      | false =>
        rw [if_neg (by rintro (q | q); exact ha q; cases q)]
        rw [hb] at HK
        clear ha hany hb
        go_enter Tryz.func84, Tryz.ntmps84
        go_wp2_with fail
        refine (H1.out _ HW.out).mono ?_
        rintro e w1 ⟨v, rfl, hv, hvb, b1⟩
        obtain ⟨B1, c0, c1, H2⟩ := HK.out w1 v b1 hv
        have hf : ∃ a c, v = .slice a ws.length c := by
          rcases ws_form hv with ⟨h1, h2⟩ | ⟨g, cap, h1⟩
          · exact ⟨none, 0, by rw [h1, h2]; rfl⟩
          · exact ⟨_, _, h1⟩
        obtain ⟨a, c, rfl⟩ := hf
        have HB := hid_of (And.intro B1 (And.intro hv hvb))
        have H2' := hid_of H2
        clear b1 hv hvb B1 H2
        go_wp2_with fail
        refine H2'.out.mono ?_
        rintro e w2 ⟨rfl, rfl⟩
        go_wp2_with fail
        go_ret
        exact ⟨_, rfl, HB.out.2.1, fun g hg => Nat.le_trans HW.out.size (HB.out.2.2 g hg), HB.out.1⟩
end Go.Proofs.YtfkilbhhpipjbaaGreatDoor.Typed
