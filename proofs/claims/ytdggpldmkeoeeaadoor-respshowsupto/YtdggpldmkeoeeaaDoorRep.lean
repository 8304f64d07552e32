/- Replies as they lie in memory; May: the program's own and the document's. -/
import Derived.Test.YtdggpldmkeoeeaaDoorFind
import Derived.Test.YtdggpldmkeoeeaaDoorPrint
import Derived.WalkKit
import Derived.BigQuiet
import Derived.Below
import Derived.Deep.LoopGhost
namespace Go.Proofs.YtdggpldmkeoeeaaDoor.Rep
open Go.RowKit
open Go.Proofs.YtdggpldmkeoeeaaDoor.TextMath
open Go.Proofs.YtdggpldmkeoeeaaDoor.RepMath
open Go.Proofs.YtdggpldmkeoeeaaDoor.Cut
open Go.Proofs.YtdggpldmkeoeeaaDoor.Find
set_option linter.unusedVariables false

def Rp.kind : Rp → Int | .mk k _ _ _ => k
def Rp.text : Rp → ByteArray | .mk _ t _ _ => t
def Rp.num : Rp → Int | .mk _ _ n _ => n
def Rp.list : Rp → List Rp | .mk _ _ _ l => l
theorem Rp.eta (r : Rp) : r = .mk (Rp.kind r) (Rp.text r) (Rp.num r) (Rp.list r) := by cases r; rfl

/- its numbers are ints, its texts and lists short -/
inductive Ok : Rp → Prop
  | mk (k : Int) (t : ByteArray) (n : Int) (l : List Rp) : InI k → InI n → t.size ≤ 1048576 → l.length ≤ 1048576 → (∀ x, x ∈ l → Ok x) → Ok (.mk k t n l)

/- a list of replies lies at an address, all of it in blocks of F -/
inductive IsL (F : Nat → Prop) (w : World) : List Rp → Option Addr → Nat → Nat → Prop
  | none (a : Option Addr) (cap : Nat) : IsL F w [] a 0 cap
  | some (l : List Rp) (b o cap : Nat) (A : Nat → Option Addr) (L C : Nat → Nat) : F b →
      (∀ i (h : i < l.length), w.cell? ⟨b, o + i * 4, .none⟩ = .some (.int .i64 (Rp.kind l[i])) ∧ w.cell? ⟨b, o + i * 4 + 1, .none⟩ = .some (.string (Rp.text l[i]))
        ∧ w.cell? ⟨b, o + i * 4 + 2, .none⟩ = .some (.int .i64 (Rp.num l[i])) ∧ w.cell? ⟨b, o + i * 4 + 3, .none⟩ = .some (.slice (A i) (L i) (C i))) →
      (∀ i (h : i < l.length), IsL F w (Rp.list l[i]) (A i) (L i) (C i)) → IsL F w l (.some ⟨b, o, .none⟩) l.length cap

def rv (r : Rp) (a : Option Addr) (len cap : Nat) : Value := .agg #[.int .i64 (Rp.kind r), .string (Rp.text r), .int .i64 (Rp.num r), .slice a len cap]

theorem IsL.len {F : Nat → Prop} {w : World} {l : List Rp} {a : Option Addr} {len cap : Nat} (h : IsL F w l a len cap) : len = l.length := by cases h <;> rfl
theorem IsL.go {F G : Nat → Prop} {w w' : World} (hF : ∀ b, F b → G b ∧ w'.heap[b]? = w.heap[b]?) {l : List Rp} {a : Option Addr} {len cap : Nat} (h : IsL F w l a len cap) : IsL G w' l a len cap := by
  induction h with
  | none a cap => exact .none a cap
  | some l b o cap A L C hb hc hl ih =>
    refine .some l b o cap A L C (hF b hb).1 ?_ (fun i h => ih i h)
    have e : ∀ j, w'.cell? ⟨b, j, .none⟩ = w.cell? ⟨b, j, .none⟩ := fun j => by unfold World.cell?; rw [(hF b hb).2]
    intro i h
    rw [e, e, e, e]
    exact hc i h
theorem IsL.stays {B : Nat} {w w' : World} (hb : Below B w w') {l : List Rp} {a : Option Addr} {len cap : Nat} (h : IsL (· < B) w l a len cap) : IsL (· < B) w' l a len cap :=
  h.go fun b hlt => ⟨hlt, hb.block b hlt⟩
theorem IsL.wide {F G : Nat → Prop} {w : World} (hF : ∀ b, F b → G b) {l : List Rp} {a : Option Addr} {len cap : Nat} (h : IsL F w l a len cap) : IsL G w l a len cap :=
  h.go fun b hb => ⟨hF b hb, rfl⟩
/- one element, for a walk -/
theorem IsL.at {F : Nat → Prop} {w : World} {l : List Rp} {a : Option Addr} {len cap : Nat} (h : IsL F w l a len cap) (i : Nat) (hi : i < l.length) :
    ∃ b o x y z, a = .some ⟨b, o, .none⟩ ∧ F b ∧ w.cell? ⟨b, o + i * 4, .none⟩ = .some (.int .i64 (Rp.kind l[i])) ∧ w.cell? ⟨b, o + i * 4 + 1, .none⟩ = .some (.string (Rp.text l[i]))
        ∧ w.cell? ⟨b, o + i * 4 + 2, .none⟩ = .some (.int .i64 (Rp.num l[i])) ∧ w.cell? ⟨b, o + i * 4 + 3, .none⟩ = .some (.slice x y z) ∧ IsL F w (Rp.list l[i]) x y z := by
  cases h with
  | none => cases hi
  | some l b o cap A L C hb hc hl => exact ⟨b, o, A i, L i, C i, rfl, hb, (hc i hi).1, (hc i hi).2.1, (hc i hi).2.2.1, (hc i hi).2.2.2, hl i hi⟩

/-! ### May -/
theorem has_list : ∀ l : List UInt8, decide (0 ≤ Lib.indexAny l [13, 10]) = !noEnd l
  | [] => rfl
  | c :: l => by
    have ih := has_list l
    have h1 := Lib.indexAny_ge [13, 10] l
    have e : ([13, 10] : List UInt8).contains c = !((!(c.toNat == 13)) && !(c.toNat == 10)) := by
      have ha : (c == (13 : UInt8)) = (c.toNat == 13) := by
        rw [Bool.eq_iff_iff, beq_iff_eq, beq_iff_eq]
        exact ⟨fun h => by rw [h]; rfl, fun h => UInt8.toNat_inj.1 h⟩
      have hb : (c == (10 : UInt8)) = (c.toNat == 10) := by
        rw [Bool.eq_iff_iff, beq_iff_eq, beq_iff_eq]
        exact ⟨fun h => by rw [h]; rfl, fun h => UInt8.toNat_inj.1 h⟩
      show (c == (13 : UInt8) || (c == (10 : UInt8) || false)) = _
      rw [ha, hb]
      cases c.toNat == 13 <;> cases c.toNat == 10 <;> rfl
    unfold Lib.indexAny
    show _ = !(((!(c.toNat == 13)) && !(c.toNat == 10)) && noEnd l)
    cases hc : ((!(c.toNat == 13)) && !(c.toNat == 10)) with
    | false =>
      rw [hc] at e
      rw [if_pos (by rw [e]; rfl)]; rfl
    | true =>
      rw [hc] at e
      rw [if_neg (by rw [e]; decide)]
      rw [Bool.true_and, ← ih]
      split
      · rename_i h0
        rw [beq_iff_eq] at h0
        rw [h0]
      · rename_i h0
        rw [beq_iff_eq] at h0
        rw [Bool.eq_iff_iff, decide_eq_true_eq, decide_eq_true_eq]
        omega
theorem has_iff (t : ByteArray) : decide (0 ≤ Lib.indexAny t.data.toList [13, 10]) = !noEnd (bs t) := has_list _
theorem empty_b (t : ByteArray) : t.toList.isEmpty = (t.size == 0) := by
  rw [Lib.toList_data, ← len_bs]
  unfold bs
  cases t.data.toList <;> rfl
theorem len_b (l : List Rp) : ((l.length : Int) == 0) = l.isEmpty := by cases l <;> rfl
theorem below_ad (w : World) (o : Obj) (n : Nat) : Below w.heap.size w ((w.alloc o).drewN n) := ⟨rfl, rfl, rfl, by simp [World.drewN], fun k hk => Lib.alloc_old w o k hk⟩
theorem ret_b {a b : Bool} (h : a = b) : Ending.returned (.bool a) = .returned (.bool b) := by rw [h]

def MayC (d : Nat) : Prop := ∀ (r : Rp) (a : Option Addr) (cap : Nat) (w : World), Ok r → IsL (· < w.heap.size) w (Rp.list r) a (Rp.list r).length cap →
    Calls Tryd.prog 28 #[rv r a (Rp.list r).length cap, .int .i64 ((9 : Int) - d)] w fun e w' => e = .returned (.bool (may d r)) ∧ Below w.heap.size w w'

set_option maxRecDepth 100000 in
set_option maxHeartbeats 1000000 in
theorem all_may (d : Nat) (hd : d ≤ 8) (ih : MayC d) (l : List Rp) (a : Option Addr) (cap : Nat) (w : World) (hl : l.length ≤ 1048576) (hok : ∀ x, x ∈ l → Ok x) (h : IsL (· < w.heap.size) w l a l.length cap) :
    Calls Tryd.prog 39 #[.slice a l.length cap, .int .i64 ((9 : Int) - d)] w fun e w' => e = .returned (.bool (l.all (may d))) ∧ Below w.heap.size w w' := by
  have HI := hid_of h
  have HO := hid_of hok
  have HC := hid_of ih
  clear h hok ih
  go_enter Tryd.func39, Tryd.ntmps39
  go_wp2_with fail
  go_loopg [9] l.length (fun g s9 wx => ∃ k : Nat, k ≤ l.length ∧ l.length ≤ k + g ∧ s9 = .int .i64 k ∧ Hid (Below w.heap.size w wx) ∧ Hid ((l.take k).all (may d) = true))
  case atStart => exact ⟨0, by omega, by omega, rfl, Below.refl _ _, rfl⟩
  case round =>
    obtain ⟨k, hk, hg, rfl, HW, HA⟩ := hrel
    by_cases hlt : k < l.length
    · obtain ⟨g', rfl⟩ : ∃ g', gk = g' + 1 := ⟨gk - 1, by omega⟩
      obtain ⟨b, o, x, y, z, rfl, hb, c0, c1, c2, c3, hx⟩ := (HI.out.stays HW.out).at k hlt
      obtain rfl := hx.len
      have HX := hid_of hx
      have HK := hid_of (HO.out _ (List.getElem_mem hlt))
      have HS := hid_of HW.out.size
      have HT : Hid ((l.take (k + 1)).all (may d) = ((l.take k).all (may d) && may d l[k])) := by
        show _ = _
        rw [List.take_succ_eq_append_getElem hlt, List.all_append]; simp
      clear hx hb
      go_wp2_with fail
      refine (HC.out l[k] x z _ HK.out ?_).mono ?_
      · refine HX.out.go fun c hc => ⟨?_, Lib.alloc_old _ _ _ (Nat.lt_of_lt_of_le hc HS.out)⟩
        have := HS.out
        simp
        omega
      · rintro e w1 ⟨rfl, b1⟩
        have HW1 : Hid (Below w.heap.size w w1) := (HW.out.alloc HS.out _).trans (b1.mono (by have := HS.out; simp; omega))
        clear b1
        cases hm : may d l[k] with
        | true =>
          rw [hm] at HT
          clear hm
          go_wp2_with fail
          go_roundg g'
          case measure => omega
          case rel => exact ⟨k + 1, hlt, by omega, rfl, HW1, by show _ = _; rw [HT.out, HA.out]; rfl⟩
        | false =>
          have HR : Hid (l.all (may d) = false) := by
            show _ = _
            rw [← Bool.not_eq_true, List.all_eq_true]
            intro hall
            have := hall _ (List.getElem_mem hlt)
            rw [hm] at this
            cases this
          clear hm
          go_wp2_with fail
          go_ret
          exact ⟨ret_b HR.out.symm, HW1.out⟩
    · have HR : Hid (l.all (may d) = true) := by
        show _ = _
        have := HA.out
        rwa [List.take_of_length_le (by omega)] at this
      go_wp2_with fail
      go_ret
      exact ⟨ret_b HR.out.symm, HW.out⟩

theorem may_text (d : Nat) (k : Int) (t : ByteArray) (n : Int) (l : List Rp) (hk : k = 1 ∨ k = 2) : may d (.mk k t n l) = ((n == 0) && l.isEmpty && noEnd (bs t)) := by
  cases d <;> rcases hk with rfl | rfl <;> simp [may]
theorem may_int (d : Nat) (t : ByteArray) (n : Int) (l : List Rp) : may d (.mk 3 t n l) = ((t.size == 0) && l.isEmpty) := by cases d <;> simp [may]
theorem may_bulk (d : Nat) (t : ByteArray) (n : Int) (l : List Rp) : may d (.mk 4 t n l) = ((n == 0) && l.isEmpty) := by cases d <;> simp [may]
theorem may_null (d : Nat) (t : ByteArray) (n : Int) (l : List Rp) : may d (.mk 5 t n l) = ((t.size == 0) && (n == 0) && l.isEmpty) := by cases d <;> simp [may]
theorem may_array0 (t : ByteArray) (n : Int) (l : List Rp) : may 0 (.mk 6 t n l) = false := by simp [may]
theorem may_array (d : Nat) (t : ByteArray) (n : Int) (l : List Rp) : may (d + 1) (.mk 6 t n l) = ((t.size == 0) && (n == 0) && l.all (may d)) := by simp [may]
theorem may_none0 (t : ByteArray) (n : Int) (l : List Rp) : may 0 (.mk 7 t n l) = false := by simp [may]
theorem may_none (d : Nat) (t : ByteArray) (n : Int) (l : List Rp) : may (d + 1) (.mk 7 t n l) = ((t.size == 0) && (n == 0) && l.isEmpty) := by simp [may]
theorem may_other (d : Nat) (k : Int) (t : ByteArray) (n : Int) (l : List Rp) (h : ¬ (1 ≤ k ∧ k ≤ 7)) : may d (.mk k t n l) = false := by
  have h1 : (k == 1) = false := by rw [beq_eq_false_iff_ne]; omega
  have h2 : (k == 2) = false := by rw [beq_eq_false_iff_ne]; omega
  have h3 : (k == 3) = false := by rw [beq_eq_false_iff_ne]; omega
  have h4 : (k == 4) = false := by rw [beq_eq_false_iff_ne]; omega
  have h5 : (k == 5) = false := by rw [beq_eq_false_iff_ne]; omega
  have h6 : (k == 6) = false := by rw [beq_eq_false_iff_ne]; omega
  have h7 : (k == 7) = false := by rw [beq_eq_false_iff_ne]; omega
  cases d <;> simp [may, h1, h2, h3, h4, h5, h6, h7]
set_option maxRecDepth 100000 in
set_option maxHeartbeats 4000000 in
theorem may_simple (d : Nat) (k : Int) (hk : k = 1 ∨ k = 2) (t : ByteArray) (n : Int) (l : List Rp) (a : Option Addr) (cap : Nat) (w : World) (ht : t.size ≤ 1048576) :
    Calls Tryd.prog 28 #[.agg #[.int .i64 k, .string t, .int .i64 n, .slice a l.length cap], .int .i64 ((9 : Int) - d)] w fun e w' => e = .returned (.bool (may d (.mk k t n l))) ∧ Below w.heap.size w w' := by
  have HM := hid_of (may_text d k t n l hk)
  have HL := len_b l
  have HF := hid_of (fun w => contains_any t w (by omega))
  rw [has_iff] at HF
  generalize t.toList.isEmpty = bT
  generalize l.isEmpty = bL at HM HL
  generalize hN : (n == 0) = bN at HM
  generalize hE : noEnd (bs t) = bE at HM HF
  clear hE ht
  rcases hk with rfl | rfl <;> cases bN <;> cases bL
  all_goals
    go_enter Tryd.func28, Tryd.ntmps28
    go_wp2_with fail
    go_quiet (fail)
    go_wp2_with (go_at_call 38; refine (HF.out _).mono ?_; rintro e w1 ⟨rfl, b1⟩)
    go_ret
  all_goals first
    | exact ⟨ret_b (by rw [HM.out]; rfl), below_ad _ _ _⟩
    | exact ⟨ret_b (by rw [HM.out]; cases bE <;> rfl), below_go (below_ad _ _ _) (by assumption)⟩
set_option maxRecDepth 100000 in
set_option maxHeartbeats 4000000 in
theorem may_plain (d : Nat) (k : Int) (hk : k = 3 ∨ k = 4 ∨ k = 5 ∨ ¬ (1 ≤ k ∧ k ≤ 7)) (t : ByteArray) (n : Int) (l : List Rp) (a : Option Addr) (cap : Nat) (w : World) :
    Calls Tryd.prog 28 #[.agg #[.int .i64 k, .string t, .int .i64 n, .slice a l.length cap], .int .i64 ((9 : Int) - d)] w fun e w' => e = .returned (.bool (may d (.mk k t n l))) ∧ Below w.heap.size w w' := by
  have HM : Hid (may d (.mk k t n l) = if k = 3 then (t.size == 0) && l.isEmpty else if k = 4 then (n == 0) && l.isEmpty else if k = 5 then (t.size == 0) && (n == 0) && l.isEmpty else false) := by
    show _ = _
    rcases hk with rfl | rfl | rfl | h
    · rw [may_int]; rfl
    · rw [may_bulk]; rfl
    · rw [may_null]; rfl
    · rw [may_other _ _ _ _ _ h, if_neg (by omega), if_neg (by omega), if_neg (by omega)]
  have HL := len_b l
  have HT := empty_b t
  generalize l.isEmpty = bL at HM HL
  generalize (t.size == 0) = bT at HM HT
  generalize hN : (n == 0) = bN at HM
  rcases hk with rfl | rfl | rfl | h
  · cases bT <;> cases bL
    all_goals
      go_enter Tryd.func28, Tryd.ntmps28
      go_wp2_with fail
      go_quiet (fail)
      go_wp2_with fail
      go_ret
      exact ⟨ret_b (by rw [HM.out]; rfl), below_ad _ _ _⟩
  · cases bN <;> cases bL
    all_goals
      go_enter Tryd.func28, Tryd.ntmps28
      go_wp2_with fail
      go_quiet (fail)
      go_wp2_with fail
      go_ret
      exact ⟨ret_b (by rw [HM.out]; rfl), below_ad _ _ _⟩
  · cases bT <;> cases bN <;> cases bL
    all_goals
      go_enter Tryd.func28, Tryd.ntmps28
      go_wp2_with fail
      go_quiet (fail)
      go_wp2_with fail
      go_ret
      exact ⟨ret_b (by rw [HM.out]; rfl), below_ad _ _ _⟩
  · have h1 : (k == 1) = false := by rw [beq_eq_false_iff_ne]; omega
    have h2 : (k == 2) = false := by rw [beq_eq_false_iff_ne]; omega
    have h3 : (k == 3) = false := by rw [beq_eq_false_iff_ne]; omega
    have h4 : (k == 4) = false := by rw [beq_eq_false_iff_ne]; omega
    have h5 : (k == 5) = false := by rw [beq_eq_false_iff_ne]; omega
    have h6 : (k == 6) = false := by rw [beq_eq_false_iff_ne]; omega
    have h7 : (k == 7) = false := by rw [beq_eq_false_iff_ne]; omega
    rw [if_neg (by omega), if_neg (by omega), if_neg (by omega)] at HM
    clear h
    go_enter Tryd.func28, Tryd.ntmps28
    go_wp2_with fail
    go_quiet (fail)
    go_wp2_with fail
    go_ret
    exact ⟨ret_b (HM.out.symm), below_ad _ _ _⟩
set_option maxRecDepth 100000 in
set_option maxHeartbeats 4000000 in
theorem may_deep0 (k : Int) (hk : k = 6 ∨ k = 7) (t : ByteArray) (n : Int) (l : List Rp) (a : Option Addr) (cap : Nat) (w : World) :
    Calls Tryd.prog 28 #[.agg #[.int .i64 k, .string t, .int .i64 n, .slice a l.length cap], .int .i64 9] w fun e w' => e = .returned (.bool (may 0 (.mk k t n l))) ∧ Below w.heap.size w w' := by
  have HM : Hid (may 0 (.mk k t n l) = false) := by
    show _ = _
    rcases hk with rfl | rfl
    · rw [may_array0]
    · rw [may_none0]
  have HL := len_b l
  have HT := empty_b t
  generalize l.isEmpty = bL at HL
  generalize (t.size == 0) = bT at HT
  generalize hN : (n == 0) = bN
  rcases hk with rfl | rfl <;> cases bT <;> cases bN <;> cases bL
  all_goals
    go_enter Tryd.func28, Tryd.ntmps28
    go_wp2_with fail
    go_quiet (fail)
    go_wp2_with fail
    go_ret
    exact ⟨ret_b (HM.out.symm), below_ad _ _ _⟩
set_option maxRecDepth 100000 in
set_option maxHeartbeats 4000000 in
theorem may_deep (d : Nat) (hd : d + 1 ≤ 8) (ih : MayC d) (k : Int) (hk : k = 6 ∨ k = 7) (t : ByteArray) (n : Int) (l : List Rp) (a : Option Addr) (cap : Nat) (w : World)
    (hl : l.length ≤ 1048576) (hok : ∀ x, x ∈ l → Ok x) (h : IsL (· < w.heap.size) w l a l.length cap) :
    Calls Tryd.prog 28 #[.agg #[.int .i64 k, .string t, .int .i64 n, .slice a l.length cap], .int .i64 ((8 : Int) - d)] w fun e w' => e = .returned (.bool (may (d + 1) (.mk k t n l))) ∧ Below w.heap.size w w' := by
  have HM : Hid (may (d + 1) (.mk k t n l) = if k = 6 then (t.size == 0) && (n == 0) && l.all (may d) else (t.size == 0) && (n == 0) && l.isEmpty) := by
    show _ = _
    rcases hk with rfl | rfl
    · rw [may_array]; rfl
    · rw [may_none]; rfl
  have HC := hid_of (fun W (hW : IsL (· < W.heap.size) W l a l.length cap) => all_may d (by omega) ih l a cap W hl hok hW)
  have HI := hid_of h
  have HL := len_b l
  have HT := empty_b t
  have hle : ((8 : Int) - d ≤ 8) := by omega
  have he : (8 : Int) - d + 1 = 9 - d := by omega
  rw [← he] at HC
  clear he
  generalize l.isEmpty = bL at HM HL
  generalize (t.size == 0) = bT at HM HT
  generalize hN : (n == 0) = bN at HM
  clear hl hok h ih
  rcases hk with rfl | rfl <;> cases bT <;> cases bN <;> cases bL
  all_goals
    go_enter Tryd.func28, Tryd.ntmps28
    go_wp2_with fail
    go_quiet (fail)
    go_wp2_with (go_at_call 39; refine (HC.out _ ?_).mono ?_)
  all_goals first
    | (go_ret; exact ⟨ret_b (by rw [HM.out]; rfl), below_ad _ _ _⟩)
    | (refine HI.out.go fun c hc => ⟨?_, (below_ad _ _ _).block c hc⟩; exact Nat.lt_of_lt_of_le hc (below_ad _ _ _).size)
    | (rintro e w1 ⟨rfl, b1⟩; go_wp2_with fail; go_ret; exact ⟨ret_b (by rw [HM.out]; rfl), below_go (below_ad _ _ _) b1⟩)
theorem may_any : ∀ d : Nat, d ≤ 8 → MayC d := by
  intro d
  induction d with
  | zero =>
    rintro - ⟨k, t, n, l⟩ a cap w hok hi
    rcases hok with ⟨_, _, _, _, h1, h2, h3, h4, h5⟩
    rcases (show (k = 1 ∨ k = 2) ∨ (k = 3 ∨ k = 4 ∨ k = 5 ∨ ¬ (1 ≤ k ∧ k ≤ 7)) ∨ (k = 6 ∨ k = 7) from by omega) with h | h | h
    · exact may_simple 0 k h t n l a cap w h3
    · exact may_plain 0 k h t n l a cap w
    · exact may_deep0 k h t n l a cap w
  | succ d ih =>
    rintro hd ⟨k, t, n, l⟩ a cap w hok hi
    rcases hok with ⟨_, _, _, _, h1, h2, h3, h4, h5⟩
    rcases (show (k = 1 ∨ k = 2) ∨ (k = 3 ∨ k = 4 ∨ k = 5 ∨ ¬ (1 ≤ k ∧ k ≤ 7)) ∨ (k = 6 ∨ k = 7) from by omega) with h | h | h
    · exact may_simple (d + 1) k h t n l a cap w h3
    · exact may_plain (d + 1) k h t n l a cap w
    · have e : (9 : Int) - ((d + 1 : Nat) : Int) = 8 - d := by omega
      rw [e]
      exact may_deep d hd (ih (by omega)) k h t n l a cap w h4 h5 hi
end Go.Proofs.YtdggpldmkeoeeaaDoor.Rep
