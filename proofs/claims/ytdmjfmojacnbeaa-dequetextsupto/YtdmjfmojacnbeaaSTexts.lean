/- texts, sameTexts: the texts of a list of numbers. -/
import Derived.Test.YtdmjfmojacnbeaaMemA
import Derived.Test.YtdmjfmojacnbeaaMemB
import Derived.Test.YtdmjfmojacnbeaaPrint
namespace Go.Proofs.Ytdmjfmojacnbeaa.STexts
open Go.RowKit
open Go.Proofs.Ytdmjfmojacnbeaa.SBase
open Go.Proofs.Ytdmjfmojacnbeaa.Base (Fr Gr ptr hid_of lt_of set_at set_ne size_set row_ne size_row add_off bel_drewN ca ca_some ca_zero cell_lt)
open Go.Proofs.Ytdmjfmojacnbeaa.SHeld
open Go.Proofs.Ytdmjfmojacnbeaa.SLay
open Go.Proofs.Ytdmjfmojacnbeaa.SFree
open Go.Proofs.Ytdmjfmojacnbeaa.SApp
open Go.Proofs.Ytdmjfmojacnbeaa.TextMath (InI)
set_option linter.unusedVariables false
set_option linter.unusedSimpArgs false
/-- the text of a number -/
def prt (n : Int) : El := ⟨(Lib.itoa n).toArray⟩
theorem Rd.get {G : Nat → Prop} {w : World} {a : Option Addr} {l : List El} (h : Rd G w a l) (hl : 0 < l.length) : ∃ g o, a = some ⟨g, o, none⟩ ∧ G g ∧ ∀ j x, l[j]? = some x → w.cell? ⟨g, o + j, none⟩ = some (V x) := by
  rcases h with e | q
  · rw [e] at hl; simp at hl
  · exact q
set_option maxHeartbeats 1000000 in
set_option maxRecDepth 100000 in
theorem sameT_call {G G' : Nat → Prop} {w : World} {u v : Value} {l l' : List El} (h : SL G w u l) (h' : SL G' w v l') (e : l = l') (hl : l.length ≤ 35184372088832) :
    Calls Try.prog 22 #[u, v] w fun e w' => e = .returned (.bool true) ∧ ∃ m, w' = w.drewN m := by
  subst e
  obtain ⟨a, c, rfl, hc, hr⟩ := h
  obtain ⟨a', c', rfl, hc', hr'⟩ := h'
  have H1 := hid_of hr
  have H2 := hid_of hr'
  obtain ⟨L, HL⟩ : ∃ L, Hid (L = l.length) := ⟨_, hid_of rfl⟩
  rw [← HL.out] at hl ⊢
  clear hr hr' hc hc'
  go_enter Try.func22, Try.ntmps22
  go_wp2_with fail
  go_loopg [5] L (fun g s5 wx => ∃ i : Nat, i ≤ L ∧ L ≤ i + g ∧ s5 = .int .i64 (i : Int) ∧ Hid (∃ m, wx = w.drewN m))
  case atStart => exact ⟨0, by omega, by omega, rfl, 0, rfl⟩
  case round =>
    obtain ⟨i, hi, hg, rfl, R⟩ := hrel
    by_cases hlt : i < L
    · obtain ⟨g', rfl⟩ : ∃ g', gk = g' + 1 := ⟨gk - 1, by omega⟩
      have hil : i < l.length := by rw [← HL.out]; exact hlt
      obtain ⟨g1, o1, rfl, _, q1⟩ := Rd.get H1.out (by omega)
      obtain ⟨g2, o2, rfl, _, q2⟩ := Rd.get H2.out (by omega)
      have c1 : wr.cell? ⟨g1, o1 + i, none⟩ = some (V l[i]) := by obtain ⟨m, rfl⟩ := R.out; exact q1 i _ (List.getElem?_eq_getElem hil)
      have c2 : wr.cell? ⟨g2, o2 + i, none⟩ = some (V l[i]) := by obtain ⟨m, rfl⟩ := R.out; exact q2 i _ (List.getElem?_eq_getElem hil)
      generalize l[i] = x at *
      clear q1 q2
      go_wp2_with fail
      go_quiet (fail)
      go_wp2_with fail
      go_roundg g'
      case measure => omega
      case rel => exact ⟨i + 1, by omega, by omega, by simp, by obtain ⟨m, e⟩ := R.out; exact ⟨m + nq, by rw [e, World.drewN_drewN]⟩⟩
    · go_wp2_with fail
      go_ret
      exact ⟨rfl, R.out⟩
set_option maxHeartbeats 1000000 in
set_option maxRecDepth 100000 in
theorem texts_call {G : Nat → Prop} {w : World} {u : Value} {l : List Int} (h : Base.SL G w u l) (hI : ∀ x ∈ l, InI x) (hb : l.length * 16 ≤ 140737488355328) :
    Calls Try.prog 16 #[u] w fun e w' => ∃ r, e = .returned r ∧ NR w.heap.size w' r (l.map prt) ∧ Below w.heap.size w w' := by
  obtain ⟨a, c, rfl, hc, hr⟩ := h
  have H1 := hid_of hr
  have HI := hid_of hI
  obtain ⟨L, HL⟩ : ∃ L, Hid (L = l.length) := ⟨_, hid_of rfl⟩
  rw [← HL.out] at hb ⊢
  clear hr hc hI
  go_enter Try.func16, Try.ntmps16
  go_wp2_with fail
  go_loopg [3, 4] L (fun g s3 s4 wx => ∃ (i : Nat) (ra : Option Addr) (rn rc : Nat), i ≤ L ∧ L ≤ i + g ∧ s3 = .slice ra rn rc ∧ s4 = .int .i64 (i : Int) ∧ Hid (NR w.heap.size wx (.slice ra rn rc) ((l.take i).map prt) ∧ Below w.heap.size w wx))
  case atStart => exact ⟨0, none, 0, 0, by omega, by omega, rfl, rfl, ⟨.inl ⟨rfl, by simp⟩, Below.refl _ _⟩⟩
  case round =>
    obtain ⟨i, ra, rn, rc, hi, hg, rfl, rfl, R⟩ := hrel
    by_cases hlt : i < L
    · obtain ⟨g', rfl⟩ : ∃ g', gk = g' + 1 := ⟨gk - 1, by omega⟩
      have hil : i < l.length := by rw [← HL.out]; exact hlt
      obtain ⟨nr, bl⟩ := R.out
      obtain ⟨g1, o1, rfl, _, q1⟩ := Same.Rd.get (H1.out.keep (w' := wr) fun k hk _ => bl.block k hk) (by omega)
      have c1 : wr.cell? ⟨g1, o1 + i, none⟩ = some (.int .i64 l[i]) := q1 i _ (List.getElem?_eq_getElem hil)
      have hrl : ((l.take i).map prt).length = i := by rw [List.length_map, List.length_take]; omega
      have hx : InI l[i] := HI.out _ (List.getElem_mem hil)
      have HP := hid_of (Print.rprint_any l[i] wr hx)
      have HK := hid_of (fun (w1 : World) (k : Below wr.heap.size wr w1) => (show ∃ a2 c2 w2, (Builtin.append_ #[37, 37] 37 #[.slice ra rn rc, .slice (some ⟨w1.heap.size, 0, none⟩) 1 1]).run Try.prog (w1.alloc (.cells #[V (prt l[i])] 9)) = .ok (.slice a2 (i + 1) c2) w2 ∧ NR w.heap.size w2 (.slice a2 (i + 1) c2) ((l.take (i + 1)).map prt) ∧ Below w.heap.size w w2 by
        have bl1 : Below w.heap.size w w1 := bl.trans (k.mono bl.size)
        obtain ⟨v2, w2, hrun, n2, b2⟩ := app_one (prt l[i]) (nr.below k) (by rw [hrl]; omega) bl1.size 37
        obtain ⟨a2, c2, rfl, hc2⟩ : ∃ a2 c2, v2 = .slice a2 (i + 1) c2 ∧ i + 1 ≤ c2 := by
          obtain ⟨a2, c2, e, h2, _⟩ := NR.shape n2
          rw [List.length_append, hrl] at e h2
          exact ⟨a2, c2, e, h2⟩
        exact ⟨a2, c2, w2, hrun, by rw [List.take_succ_eq_append_getElem hil, List.map_append]; exact n2, bl1.trans b2⟩))
      rw [show (⟨(Lib.itoa l[i]).toArray⟩ : ByteArray) = prt l[i] from rfl] at HP
      generalize prt l[i] = y at *
      generalize l[i] = x at *
      clear R nr bl q1 hx
      go_wp2_with fail
      refine HP.out.mono ?_
      rintro e w1 ⟨rfl, k1⟩
      obtain ⟨a2, c2, w2, hrun, n2, b2⟩ := HK.out w1 k1
      have K := hid_of (And.intro n2 b2)
      clear n2 b2 k1
      go_wp2_with (at_builtin; refine wpl_eq rfl _ _ 37 37 rfl (.slice ra rn rc) (.slice (some ⟨w1.heap.size, 0, none⟩) 1 1) (.slice a2 (i + 1) c2) _ w2 rfl rfl hrun ?_)
      go_roundg g'
      case measure => omega
      case rel => exact ⟨i + 1, a2, i + 1, c2, by omega, by omega, rfl, by simp, K⟩
    · have hi2 : i = l.length := by rw [← HL.out]; omega
      have R2 := hid_of R.out
      rw [hi2, List.take_length] at R2
      clear R
      go_wp2_with fail
      go_ret
      exact ⟨_, rfl, R2.out⟩
end Go.Proofs.Ytdmjfmojacnbeaa.STexts
