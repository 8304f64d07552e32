/- The document's own lists of names. -/
import Derived.Test.YtilbffbmpgebmaaRefBase
import Derived.Test.YtilbffbmpgebmaaCrash
namespace Go.Proofs.Ytilbffbmpgebmaa.RefTexts
open Go.RowKit Go.Maps Go.Sort
open Go.Proofs.Ytilbffbmpgebmaa.DiskMath
open Go.Proofs.Ytilbffbmpgebmaa.RefMath
open Go.Proofs.Ytilbffbmpgebmaa.Base
open Go.Proofs.Ytilbffbmpgebmaa.Small
open Go.Proofs.Ytilbffbmpgebmaa.Append
open Go.Proofs.Ytilbffbmpgebmaa.Plan
open Go.Proofs.Ytilbffbmpgebmaa.Rising
open Go.Proofs.Ytilbffbmpgebmaa.RefNames
open Go.Proofs.Ytilbffbmpgebmaa.RefWith
open Go.Proofs.Ytilbffbmpgebmaa.RefBase
set_option linter.unusedVariables false

def listOf (d : Dk) (lasting : Bool) : NL := if lasting then d.last else d.names
def told (d : Dk) (lasting : Bool) : List Bs := if d.down then [] else keys (listOf d lasting)
/- texts that are the call's own -/
def OT (w : World) (l : List Bs) (v : Value) (wx : World) : Prop := wx.ownsRow w.heap.size 9 1 v l.length (l.map encStr) ∧ Below w.heap.size w wx
theorem ot_start (w : World) : OT w [] (.slice none 0 0) w := ⟨World.ownsRow_nil _ _ _ _, Below.refl _ _⟩
theorem ot_snoc {w W W' : World} {l : List Bs} {p : Bs} {v v' : Value} {o : Obj} (h : OT w l v W) (h1 : W'.ownsRow w.heap.size 9 1 v' (l.length + 1) (l.map encStr ++ [encStr p])) (h2 : (W.alloc o).grownBy W' v.ownBlock) : OT w (l ++ [p]) v' W' := by
  have hb : Below w.heap.size w (W.alloc o) := h.2.alloc h.2.size o
  refine ⟨?_, hb.grown h2 hb.size (fun k hk => (h.1.lt k hk).1)⟩
  rw [List.length_append, List.map_append]
  exact h1
theorem keys_take (l : NL) (k : Nat) (h : k < l.length) : keys (l.take (k + 1)) = keys (l.take k) ++ [(l[k]).1] := by
  unfold keys
  rw [take_snoc l k h, List.map_append]
  rfl
theorem nm_cells {w : World} {v : Value} {l : NL} (h : NmSl w v l) : ∃ a c, v = .slice a l.length c ∧ (l = [] ∨ ∃ g o, a = some ⟨g, o, none⟩ ∧ ∀ k (h : k < l.length), w.cell? ⟨g, o + k * 2, none⟩ = some (.string (mk (l[k]'h).1)) ∧ w.cell? ⟨g, o + k * 2 + 1, none⟩ = some (.int .i64 ((l[k]'h).2 : Int))) := h
theorem one_new (w : World) (x : Value) (t : TypeId) : ∀ j u, [x][j]? = some u → (w.alloc (.cells #[x] t)).cell? ((⟨w.heap.size, 0, none⟩ : Addr).add j) = some u := by
  intro j u hj
  match j, hj with
  | 0, hj =>
    simp at hj
    subst hj
    simp [Addr.add]
set_option maxHeartbeats 2000000 in
set_option maxRecDepth 100000 in
theorem rtexts_call (base b : Nat) (r : Rl) (d : Dk) (t : Bool) (w : World) (h : RD base b r d w) (hl : (listOf d t).length < 1099511627776) :
    Calls Try.prog 39 #[ptr b, .bool t] w fun e w' => ∃ v, e = .returned v ∧ OT w (told d t) v w' := by
  obtain ⟨l, hld⟩ : ∃ l, l = listOf d t := ⟨_, rfl⟩
  have c6 : w.cell? ⟨b, 6, none⟩ = some (.bool d.down) := h.cell 6
  obtain ⟨nv, hnv⟩ : ∃ nv, nv = if t then r.lv else r.nv := ⟨_, rfl⟩
  have c1 : w.cell? ⟨b, 1, none⟩ = some r.nv := h.cell 1
  have c2 : w.cell? ⟨b, 2, none⟩ = some r.lv := h.cell 2
  obtain ⟨an, cn, e1, _⟩ := nm_row h.nm
  obtain ⟨al, cl, e2, _⟩ := nm_row h.ls
  rw [e1] at c1
  rw [e2] at c2
  have HV : Hid (NmSl w nv l) := by
    rw [hnv, hld]
    cases t with
    | true => exact nm_row h.ls
    | false => exact nm_row h.nm
  have HB : Hid (b < w.heap.size) := lt_of h.disk
  have HDn : Hid (told d t = if d.down then [] else keys l) := by show _ = _; rw [hld]; rfl
  rw [← hld] at hl
  obtain ⟨i0, hi, hz0, hz1, hz2⟩ := parts info9
  obtain ⟨a, c, e3, hc⟩ := HV.out
  have HC := hid_of hc
  obtain ⟨n, hn⟩ : ∃ n, n = l.length := ⟨_, rfl⟩
  rw [← hn] at e3
  have ev : (if t then .slice al d.last.length cl else .slice an d.names.length cn : Value) = .slice a n c := by rw [← e3, hnv]; cases t <;> simp [e1, e2]
  clear h hc hld hnv
  unfold ptr
  cases t with
  | true =>
    rw [if_pos rfl] at ev
    rw [ev] at c2
    clear e1 e2 e3 ev HV
    cases hd : d.down with
    | true =>
      rw [hd] at c6
      have HD : Hid (told d true = []) := by show _ = _; rw [HDn.out, hd]; rfl
      clear HDn hd
      go_enter Try.func39, Try.ntmps39
      go_wp2_with fail
      go_loopg [7, 5] 0 (fun g si so wx => si = .int .i64 0 ∧ so = .slice none 0 0 ∧ wx = w)
      case atStart => exact ⟨rfl, rfl, rfl⟩
      case round =>
        obtain ⟨rfl, rfl, rfl⟩ := hrel
        by_cases h0 : (0 : Int) < (n : Int)
        all_goals
          go_wp2_with fail
          go_ret
          exact ⟨_, rfl, by rw [HD.out]; exact ot_start _⟩
    | false =>
      rw [hd] at c6
      have HD : Hid (told d true = keys l) := by show _ = _; rw [HDn.out, hd]; rfl
      clear HDn hd
      go_enter Try.func39, Try.ntmps39
      go_wp2_with fail
      go_loopg [7, 5] n (fun g si so wx => ∃ k : Nat, k ≤ n ∧ n ≤ k + g ∧ si = .int .i64 k ∧ Hid (OT w (keys (l.take k)) so wx))
      case atStart => exact ⟨0, by omega, by omega, rfl, ot_start w⟩
      case round =>
        obtain ⟨k, hk, hg, rfl, HO⟩ := hrel
        have r6 : wr.cell? ⟨b, 6, none⟩ = some (.bool false) := cell_on HO.out.2 c6
        by_cases hlt : k < n
        · obtain ⟨g', rfl⟩ : ∃ g', gk = g' + 1 := ⟨gk - 1, by omega⟩
          have hltl : k < l.length := by omega
          obtain ⟨gb, o, rfl, hc⟩ : ∃ g o, a = some ⟨g, o, none⟩ ∧ ∀ k (h : k < l.length), w.cell? ⟨g, o + k * 2, none⟩ = some (.string (mk (l[k]'h).1)) ∧ w.cell? ⟨g, o + k * 2 + 1, none⟩ = some (.int .i64 ((l[k]'h).2 : Int)) := by
            rcases HC.out with h | h
            · subst h; simp at hltl
            · exact h
          have q0 := cell_on HO.out.2 (hc k hltl).1
          have hks := keys_take l k hltl
          have ew : IntKind.i64.wrap ((k : Int) + 1) = (k : Int) + 1 := IntWalk.i64_in _ (by omega)
          have gi : (k : Int) < (n : Int) := by omega
          obtain ⟨p, hp⟩ : ∃ p, p = l[k] := ⟨_, rfl⟩
          rw [← hp] at q0 hks
          have HKS := hid_of hks
          have hkl : (keys (l.take k)).length = k := by unfold keys; rw [List.length_map, List.length_take]; omega
          have HX : Hid (encStr p.1 = .string (mk p.1)) := rfl
          obtain ⟨X, hX⟩ : ∃ X, X = mk p.1 := ⟨_, rfl⟩
          rw [← hX] at q0 HX
          have hkl2 : (keys (l.take k)).length ≤ k := by omega
          clear hc hp hks hkl hX
          go_wp2_with (first
            | (at_builtin; refine wpList_append_own _ rfl _ _ 43 rfl w.heap.size 9 i0 (.string ⟨#[]⟩) 1 16 Try.underlying43 hi hz0 hz1 hz2 rfl (by decide) _ _ _ rfl (HO.out.1.alloc _) _ 1 1 [.string X] rfl rfl (one_new _ _ _) (by simp [Value.oneCell']) (by unfold maxLen; omega) (by omega) (by have := HO.out.2.size; simp; omega) ?_; intro v' w1 hown hg1 hnil; go_frame)
            | go_in)
          rw [← HX.out] at hown
          have HN := hid_of (ot_snoc HO.out hown hg1)
          rw [← HKS.out] at HN
          clear hown hg1 hnil
          go_wp2_with fail
          go_roundg g'
          case measure => omega
          case rel => exact ⟨k + 1, by omega, by omega, by rw [show ((k + 1 : Nat) : Int) = (k : Int) + 1 from by omega], HN⟩
        · obtain rfl : k = n := by omega
          have gi : ¬ (k : Int) < (k : Int) := by omega
          have HE := HO.out
          rw [hn, List.take_length] at HE
          have HE2 := hid_of HE
          clear HE
          go_wp2_with fail
          go_ret
          exact ⟨_, rfl, by rw [HD.out]; exact HE2.out⟩
  | false =>
    rw [if_neg (by decide)] at ev
    rw [ev] at c1
    clear e1 e2 e3 ev HV
    cases hd : d.down with
    | true =>
      rw [hd] at c6
      have HD : Hid (told d false = []) := by show _ = _; rw [HDn.out, hd]; rfl
      clear HDn hd
      go_enter Try.func39, Try.ntmps39
      go_wp2_with fail
      go_loopg [7, 5] 0 (fun g si so wx => si = .int .i64 0 ∧ so = .slice none 0 0 ∧ wx = w)
      case atStart => exact ⟨rfl, rfl, rfl⟩
      case round =>
        obtain ⟨rfl, rfl, rfl⟩ := hrel
        by_cases h0 : (0 : Int) < (n : Int)
        all_goals
          go_wp2_with fail
          go_ret
          exact ⟨_, rfl, by rw [HD.out]; exact ot_start _⟩
    | false =>
      rw [hd] at c6
      have HD : Hid (told d false = keys l) := by show _ = _; rw [HDn.out, hd]; rfl
      clear HDn hd
      go_enter Try.func39, Try.ntmps39
      go_wp2_with fail
      go_loopg [7, 5] n (fun g si so wx => ∃ k : Nat, k ≤ n ∧ n ≤ k + g ∧ si = .int .i64 k ∧ Hid (OT w (keys (l.take k)) so wx))
      case atStart => exact ⟨0, by omega, by omega, rfl, ot_start w⟩
      case round =>
        obtain ⟨k, hk, hg, rfl, HO⟩ := hrel
        have r6 : wr.cell? ⟨b, 6, none⟩ = some (.bool false) := cell_on HO.out.2 c6
        by_cases hlt : k < n
        · obtain ⟨g', rfl⟩ : ∃ g', gk = g' + 1 := ⟨gk - 1, by omega⟩
          have hltl : k < l.length := by omega
          obtain ⟨gb, o, rfl, hc⟩ : ∃ g o, a = some ⟨g, o, none⟩ ∧ ∀ k (h : k < l.length), w.cell? ⟨g, o + k * 2, none⟩ = some (.string (mk (l[k]'h).1)) ∧ w.cell? ⟨g, o + k * 2 + 1, none⟩ = some (.int .i64 ((l[k]'h).2 : Int)) := by
            rcases HC.out with h | h
            · subst h; simp at hltl
            · exact h
          have q0 := cell_on HO.out.2 (hc k hltl).1
          have hks := keys_take l k hltl
          have ew : IntKind.i64.wrap ((k : Int) + 1) = (k : Int) + 1 := IntWalk.i64_in _ (by omega)
          have gi : (k : Int) < (n : Int) := by omega
          obtain ⟨p, hp⟩ : ∃ p, p = l[k] := ⟨_, rfl⟩
          rw [← hp] at q0 hks
          have HKS := hid_of hks
          have hkl : (keys (l.take k)).length = k := by unfold keys; rw [List.length_map, List.length_take]; omega
          have HX : Hid (encStr p.1 = .string (mk p.1)) := rfl
          obtain ⟨X, hX⟩ : ∃ X, X = mk p.1 := ⟨_, rfl⟩
          rw [← hX] at q0 HX
          have hkl2 : (keys (l.take k)).length ≤ k := by omega
          clear hc hp hks hkl hX
          go_wp2_with (first
            | (at_builtin; refine wpList_append_own _ rfl _ _ 43 rfl w.heap.size 9 i0 (.string ⟨#[]⟩) 1 16 Try.underlying43 hi hz0 hz1 hz2 rfl (by decide) _ _ _ rfl (HO.out.1.alloc _) _ 1 1 [.string X] rfl rfl (one_new _ _ _) (by simp [Value.oneCell']) (by unfold maxLen; omega) (by omega) (by have := HO.out.2.size; simp; omega) ?_; intro v' w1 hown hg1 hnil; go_frame)
            | go_in)
          rw [← HX.out] at hown
          have HN := hid_of (ot_snoc HO.out hown hg1)
          rw [← HKS.out] at HN
          clear hown hg1 hnil
          go_wp2_with fail
          go_roundg g'
          case measure => omega
          case rel => exact ⟨k + 1, by omega, by omega, by rw [show ((k + 1 : Nat) : Int) = (k : Int) + 1 from by omega], HN⟩
        · obtain rfl : k = n := by omega
          have gi : ¬ (k : Int) < (k : Int) := by omega
          have HE := HO.out
          rw [hn, List.take_length] at HE
          have HE2 := hid_of HE
          clear HE
          go_wp2_with fail
          go_ret
          exact ⟨_, rfl, by rw [HD.out]; exact HE2.out⟩
end Go.Proofs.Ytilbffbmpgebmaa.RefTexts
