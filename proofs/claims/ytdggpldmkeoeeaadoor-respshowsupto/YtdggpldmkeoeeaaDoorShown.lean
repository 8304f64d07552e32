/- Show: a reply. -/
import Derived.Test.YtdggpldmkeoeeaaDoorRefMay
import Derived.Test.YtdggpldmkeoeeaaDoorShow
namespace Go.Proofs.YtdggpldmkeoeeaaDoor.Shown
open Go.RowKit
open Go.Proofs.YtdggpldmkeoeeaaDoor.TextMath
open Go.Proofs.YtdggpldmkeoeeaaDoor.RepMath
open Go.Proofs.YtdggpldmkeoeeaaDoor.Cut
open Go.Proofs.YtdggpldmkeoeeaaDoor.Rep
open Go.Proofs.YtdggpldmkeoeeaaDoor.RefMay (box)
open Go.Proofs.YtdggpldmkeoeeaaDoor.Print (Tab print_any dec_len)
open Go.Proofs.YtdggpldmkeoeeaaDoor.Builder
open Go.Proofs.YtdggpldmkeoeeaaDoor.Show
set_option linter.unusedVariables false

theorem gPow : Tryd.prog.globalNamed "internal/strconv.uint64pow10" = some 1 := by kernel_rfl
theorem tab_stays {B : Nat} {w w' : World} (h : Tab w) (hb : Below B w w') (hB : 6 ≤ B) : Tab w' := var?_below hb gPow (by omega) h
theorem itoa_len {n : Int} (h : InI n) : (Go.Lib.itoa n).length ≤ 21 := by
  unfold InI at h
  unfold Go.Lib.itoa
  split
  · have := dec_len (u := n.natAbs) (by omega)
    rw [List.length_cons]; omega
  · have := dec_len (u := n.toNat) (by omega)
    omega
theorem bs_mk (l : List UInt8) : bs ⟨l.toArray⟩ = l := by simp [bs]
theorem size_mk (l : List UInt8) : (⟨l.toArray⟩ : ByteArray).size = l.length := by rw [← len_bs, bs_mk]

/- how much a reply holds -/
def wt : Nat → Rp → Nat
  | 0, .mk _ t _ l => t.size + 5
  | d + 1, .mk _ t _ l => t.size + 5 + (l.map (wt d)).sum
theorem wt_ge (d : Nat) (k : Int) (t : ByteArray) (n : Int) (l : List Rp) : t.size + 5 ≤ wt d (.mk k t n l) := by cases d <;> simp [wt]

theorem alloc_isB {B b : Nat} {l : List UInt8} {w : World} (h : IsB B b l w) (o : Obj) : IsB B b l (w.alloc o) := by
  refine ⟨?_, Nat.le_trans h.2 (by simp)⟩
  have key : ∀ p, Lib.BuilderAt 59 5 B b p (Lib.byteCells l) w → Lib.BuilderAt 59 5 B b p (Lib.byteCells l) (w.alloc o) := by
    rintro p ⟨hB, v, hb, hown, hne⟩
    exact ⟨hB, v, (Lib.alloc_old w o b (Array.getElem?_eq_some_iff.1 hb).1).trans hb, hown.alloc o, hne⟩
  rcases h.1 with h | h
  · exact Or.inl (key _ h)
  · exact Or.inr (key _ h)
theorem isB_lt {B b : Nat} {l : List UInt8} {w : World} (h : IsB B b l w) : b < w.heap.size := by
  rcases h.1 with ⟨_, v, hb, _⟩ | ⟨_, v, hb, _⟩ <;> exact (Array.getElem?_eq_some_iff.1 hb).1
theorem box_k {B b : Nat} {w W : World} {k : Int} {t : ByteArray} {n : Int} {a : Option Addr} {len cap : Nat} (hb : b < w.heap.size) (h : Kp B b (w.alloc (box k t n a len cap)) W) :
    W.cell? ⟨w.heap.size, 0, none⟩ = some (.int .i64 k) ∧ W.cell? ⟨w.heap.size, 1, none⟩ = some (.string t) ∧ W.cell? ⟨w.heap.size, 2, none⟩ = some (.int .i64 n) ∧ W.cell? ⟨w.heap.size, 3, none⟩ = some (.slice a len cap) := by
  have e : W.heap[w.heap.size]? = some (box k t n a len cap) := by
    refine h.2 _ _ (heap_alloc_new w _) (by simp; omega) ?_
    intro c fz hc
    unfold box at hc
    cases hc
  unfold box at e
  refine ⟨?_, ?_, ?_, ?_⟩ <;> (rw [Lib.cell_of_heap e]; rfl)
theorem kp_alloc {B b : Nat} {w : World} (hB : B ≤ w.heap.size) (o : Obj) : Kp B b w (w.alloc o) := (Kp.refl B b w).alloc hB o

def ShowC (d : Nat) : Prop := ∀ (r : Rp) (a : Option Addr) (cap : Nat) (B b : Nat) (l : List UInt8) (w : World), Ok r → may d r = true → 6 ≤ B → IsL (· < B) w (Rp.list r) a (Rp.list r).length cap → IsB B b l w → Tab w → l.length + 8 * wt d r ≤ 10000000 →
    Calls Tryd.prog 32 #[.pointer (some ⟨b, 0, none⟩), rv r a (Rp.list r).length cap] w fun e w' => e = .returned (.tuple #[]) ∧ IsB B b (l ++ shown d r) w' ∧ Kp B b w w'

set_option maxRecDepth 100000 in
set_option maxHeartbeats 1000000 in
theorem show_simple (k : Int) (hk : k = 1 ∨ k = 2) (t : ByteArray) (n : Int) (a : Option Addr) (len cap : Nat) (B b : Nat) (l : List UInt8) (w : World) (h : IsB B b l w) (hl : l.length ≤ 10000000) (ht : t.size ≤ 1048576) :
    Calls Tryd.prog 32 #[.pointer (some ⟨b, 0, none⟩), .agg #[.int .i64 k, .string t, .int .i64 n, .slice a len cap]] w fun e w' => e = .returned (.tuple #[]) ∧ IsB B b (l ++ (if k = 1 then bs t else tErr ++ bs t)) w' ∧ Kp B b w w' := by
  have H := hid_of h
  have Hb := hid_of (isB_lt h)
  clear h
  rcases hk with rfl | rfl
  · rw [if_pos rfl]
    go_enter Tryd.func32, Tryd.ntmps32
    go_wp2_with fail
    refine (str_any B b _ _ _ (alloc_isB H.out _) (by omega) (by omega)).mono ?_
    rintro e w1 ⟨rfl, h1, b1⟩
    go_wp2_with fail
    go_end0
    exact ⟨rfl, h1, (kp_alloc H.out.2 _).trans b1⟩
  · rw [if_neg (by decide)]
    go_enter Tryd.func32, Tryd.ntmps32
    go_wp2_with fail
    refine (str_any B b _ _ _ (alloc_isB H.out _) (by omega) (by decide)).mono ?_
    rintro e w1 ⟨rfl, h1, b1⟩
    have H1 := hid_of h1
    have B1 := hid_of b1
    obtain ⟨-, c1, -, -⟩ := box_k Hb.out b1
    clear h1 b1
    go_wp2_with fail
    refine (str_any B b _ _ _ H1.out (ap_len _ _ _ (by show l.length + 8 ≤ _; omega)) (by omega)).mono ?_
    rintro e w2 ⟨rfl, h2, b2⟩
    go_wp2_with fail
    go_end0
    refine ⟨rfl, ?_, ((kp_alloc H.out.2 _).trans B1.out).trans b2⟩
    rw [← List.append_assoc]
    exact h2
set_option maxRecDepth 100000 in
set_option maxHeartbeats 1000000 in
theorem show_int (t : ByteArray) (n : Int) (a : Option Addr) (len cap : Nat) (B b : Nat) (l : List UInt8) (w : World) (h : IsB B b l w) (hl : l.length ≤ 10000000) (hn : InI n) (hT : Tab w) (hB : 6 ≤ B) :
    Calls Tryd.prog 32 #[.pointer (some ⟨b, 0, none⟩), .agg #[.int .i64 3, .string t, .int .i64 n, .slice a len cap]] w fun e w' => e = .returned (.tuple #[]) ∧ IsB B b (l ++ (tInt ++ Go.Lib.itoa n)) w' ∧ Kp B b w w' := by
  have H := hid_of h
  have HT := hid_of hT
  have HN := hid_of hn
  have Hb := hid_of (isB_lt h)
  clear h hT hn
  go_enter Tryd.func32, Tryd.ntmps32
  go_wp2_with fail
  refine (str_any B b _ _ _ (alloc_isB H.out _) (by omega) (by decide)).mono ?_
  rintro e w1 ⟨rfl, h1, b1⟩
  have H1 := hid_of h1
  have B1 := hid_of b1
  obtain ⟨-, -, c2, -⟩ := box_k Hb.out b1
  have HT1 := hid_of (tab_stays HT.out ((kp_alloc H.out.2 _).trans b1).1 hB)
  clear h1 b1
  go_wp2_with fail
  refine (print_any n _ HN.out HT1.out).mono ?_
  rintro e w2 ⟨rfl, b2⟩
  have B2 : Hid (Kp B b w1 w2) := ⟨b2.mono H1.out.2, fun k o hk _ _ => (b2.block k (Array.getElem?_eq_some_iff.1 hk).1).trans hk⟩
  have H2 : Hid (IsB B b (l ++ bs ⟨#[40, 105, 110, 116, 101, 103, 101, 114, 41, 32]⟩) w2) := by
    refine ⟨?_, Nat.le_trans H1.out.2 b2.size⟩
    have key : ∀ p, Lib.BuilderAt 59 5 B b p (Lib.byteCells (l ++ bs ⟨#[40, 105, 110, 116, 101, 103, 101, 114, 41, 32]⟩)) w1 → Lib.BuilderAt 59 5 B b p (Lib.byteCells (l ++ bs ⟨#[40, 105, 110, 116, 101, 103, 101, 114, 41, 32]⟩)) w2 := by
      rintro p ⟨hB, v, hb, ⟨ho1, ho2⟩, hne⟩
      refine ⟨hB, v, (b2.block b (Array.getElem?_eq_some_iff.1 hb).1).trans hb, ⟨ho1, ?_⟩, hne⟩
      rcases ho2 with x | ⟨g, cp, cur, x1, x2, x3, x4⟩
      · exact Or.inl x
      · exact Or.inr ⟨g, cp, cur, x1, x2, (b2.block g (Array.getElem?_eq_some_iff.1 x3).1).trans x3, x4⟩
    rcases H1.out.1 with h | h
    · exact Or.inl (key _ h)
    · exact Or.inr (key _ h)
  clear b2
  have HL := hid_of (itoa_len HN.out)
  go_wp2_with fail
  refine (str_any B b _ _ _ H2.out (ap_len _ _ _ (by show l.length + 10 ≤ _; omega)) (by rw [size_mk]; have := HL.out; omega)).mono ?_
  rintro e w3 ⟨rfl, h3, b3⟩
  go_wp2_with fail
  go_end0
  refine ⟨rfl, ?_, (((kp_alloc H.out.2 _).trans B1.out).trans B2.out).trans b3⟩
  rw [← List.append_assoc]
  rw [bs_mk] at h3
  exact h3
set_option maxRecDepth 100000 in
set_option maxHeartbeats 1000000 in
theorem show_bulk (t : ByteArray) (n : Int) (a : Option Addr) (len cap : Nat) (B b : Nat) (l : List UInt8) (w : World) (h : IsB B b l w) (hl : l.length ≤ 10000000) (ht : t.size ≤ 1048576) :
    Calls Tryd.prog 32 #[.pointer (some ⟨b, 0, none⟩), .agg #[.int .i64 4, .string t, .int .i64 n, .slice a len cap]] w fun e w' => e = .returned (.tuple #[]) ∧ IsB B b (l ++ shQ (bs t)) w' ∧ Kp B b w w' := by
  have H := hid_of h
  clear h
  go_enter Tryd.func32, Tryd.ntmps32
  go_wp2_with fail
  refine (quote_any B b _ _ _ (alloc_isB H.out _) (by omega) (by omega)).mono ?_
  rintro e w1 ⟨rfl, h1, b1⟩
  go_wp2_with fail
  go_end0
  exact ⟨rfl, h1, (kp_alloc H.out.2 _).trans b1⟩
set_option maxRecDepth 100000 in
set_option maxHeartbeats 1000000 in
theorem show_fix (k : Int) (hk : k = 5 ∨ k = 7) (t : ByteArray) (n : Int) (a : Option Addr) (len cap : Nat) (B b : Nat) (l : List UInt8) (w : World) (h : IsB B b l w) (hl : l.length ≤ 10000000) :
    Calls Tryd.prog 32 #[.pointer (some ⟨b, 0, none⟩), .agg #[.int .i64 k, .string t, .int .i64 n, .slice a len cap]] w fun e w' => e = .returned (.tuple #[]) ∧ IsB B b (l ++ (if k = 5 then tNil else tNone)) w' ∧ Kp B b w w' := by
  have H := hid_of h
  clear h
  rcases hk with rfl | rfl
  · rw [if_pos rfl]
    go_enter Tryd.func32, Tryd.ntmps32
    go_wp2_with fail
    refine (str_any B b _ _ _ (alloc_isB H.out _) (by omega) (by decide)).mono ?_
    rintro e w1 ⟨rfl, h1, b1⟩
    go_wp2_with fail
    go_end0
    exact ⟨rfl, h1, (kp_alloc H.out.2 _).trans b1⟩
  · rw [if_neg (by decide)]
    go_enter Tryd.func32, Tryd.ntmps32
    go_wp2_with fail
    refine (str_any B b _ _ _ (alloc_isB H.out _) (by omega) (by decide)).mono ?_
    rintro e w1 ⟨rfl, h1, b1⟩
    go_wp2_with fail
    go_end0
    exact ⟨rfl, h1, (kp_alloc H.out.2 _).trans b1⟩
end Go.Proofs.YtdggpldmkeoeeaaDoor.Shown
