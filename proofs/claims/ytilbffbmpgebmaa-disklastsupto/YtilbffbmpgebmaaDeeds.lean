/- Deeds: what one is, what Do makes of it, a slice of them; the law DiskDoes. -/
import Derived.Test.YtilbffbmpgebmaaDoA
import Derived.Test.YtilbffbmpgebmaaDoC
import Derived.Test.YtilbffbmpgebmaaDoP
import Derived.Test.YtilbffbmpgebmaaLike
namespace Go.Proofs.Ytilbffbmpgebmaa.Deeds
open Go.RowKit Go.Maps
open Go.Proofs.Ytilbffbmpgebmaa.DiskMath
open Go.Proofs.Ytilbffbmpgebmaa.RefMath
open Go.Proofs.Ytilbffbmpgebmaa.Base
open Go.Proofs.Ytilbffbmpgebmaa.Small
open Go.Proofs.Ytilbffbmpgebmaa.File
open Go.Proofs.Ytilbffbmpgebmaa.File2
open Go.Proofs.Ytilbffbmpgebmaa.Crash
open Go.Proofs.Ytilbffbmpgebmaa.Plan
open Go.Proofs.Ytilbffbmpgebmaa.Plan2
open Go.Proofs.Ytilbffbmpgebmaa.None2
open Go.Proofs.Ytilbffbmpgebmaa.RefBase
open Go.Proofs.Ytilbffbmpgebmaa.RefChange
open Go.Proofs.Ytilbffbmpgebmaa.RefFiles
open Go.Proofs.Ytilbffbmpgebmaa.Pair
open Go.Proofs.Ytilbffbmpgebmaa.DoA
open Go.Proofs.Ytilbffbmpgebmaa.DoC
open Go.Proofs.Ytilbffbmpgebmaa.DoP
open Go.Proofs.Ytilbffbmpgebmaa.Like
set_option linter.unusedVariables false

structure DD where
  k : Int
  A : ByteArray
  B : ByteArray
  n : Int
  fa : Option Addr
  fn : Nat
  fc : Nat
  cn : Int
  ba : Option Addr
  bn : Nat
  bc : Nat
  fl : List Ft
  bytes : List Int
instance : Inhabited DD := ⟨⟨0, ⟨#[]⟩, ⟨#[]⟩, 0, none, 0, 0, 0, none, 0, 0, [], []⟩⟩
def DD.val (x : DD) : Value := .agg #[.int .i64 x.k, .string x.A, .string x.B, .int .i64 x.n, .slice x.fa x.fn x.fc, .int .i64 x.cn, .slice x.ba x.bn x.bc]
structure DD.ok (x : DD) (w : World) : Prop where
  ft : FtSl w (.slice x.fa x.fn x.fc) x.fl
  it : IntSl w (.slice x.ba x.bn x.bc) x.bytes
  hw : ∀ f ∈ x.fl, -9223372036854775808 ≤ f.step ∧ f.step ≤ 9223372036854775807 ∧ f.n ≤ 9223372036854775807
def DD.wt (x : DD) : Nat := x.A.size + x.B.size + x.fl.length + x.bytes.length + 1
theorem int_below {w w' : World} {v : Value} {l : List Int} (h : IntSl w v l) (hb : Below w.heap.size w w') : IntSl w' v l := by
  obtain ⟨a, c, e, h⟩ := h
  refine ⟨a, c, e, h.imp id ?_⟩
  rintro ⟨g, o, e, hc⟩
  exact ⟨g, o, e, fun k hk => cell_on hb (hc k hk)⟩
theorem DD.ok.below {x : DD} {w w' : World} (h : x.ok w) (hb : Below w.heap.size w w') : x.ok w' := ⟨ft_below h.ft hb, int_below h.it hb, h.hw⟩
def doS (x : DD) (d : Dk) : Dk :=
  if x.k = 0 then (d.create (bs x.A)).1 else if x.k = 1 then (d.append (bs x.A) (bs x.B)).1 else if x.k = 2 then (d.trunc (bs x.A) x.n).1 else if x.k = 3 then (d.sync (bs x.A)).1
  else if x.k = 4 then (d.rename (bs x.A) (bs x.B)).1 else if x.k = 5 then (d.remove (bs x.A)).1 else if x.k = 6 then d.syncNames.1 else if x.k = 7 then (setS d x.fl).1 else if x.k = 8 then d.crash x.cn x.bytes else d
theorem pr_more {base b bd : Nat} {d : Dk} {n T T' : Nat} {w : World} (h : Pr base b bd d n T w) (hT : T ≤ T') : Pr base b bd d n T' w := ⟨h.dk, h.rd, h.iv.more (Nat.le_refl _) hT⟩
theorem do_any (base b bd : Nat) (d : Dk) (n T : Nat) (x : DD) (w w0 : World) (hp : Pr base b bd d n T w) (hn : n < 1000000000) (hT : T ≤ 100000000) (hx : x.wt ≤ 1048576) (ho : x.ok w0) (h0 : w0.heap.size ≤ base) (hb : Below w0.heap.size w0 w) :
    Calls Try.prog 10 #[ptr b, ptr bd, x.val] w fun e w' => e = .returned (.bool true) ∧ Pr base b bd (doS x d) (n + 1) (T + x.B.size) w' ∧ Below base w w' := by
  unfold DD.wt at hx
  have hA : x.A.size ≤ 1000000000 := by omega
  have hB : x.B.size ≤ 1000000000 := by omega
  have hT2 : T ≤ 1000000000 := by omega
  have hW : ∀ W, Below base w W → x.ok W := fun W h => ho.below (hb.trans (h.mono h0))
  have fin : ∀ d', doS x d = d' → (Calls Try.prog 10 #[ptr b, ptr bd, x.val] w fun e w' => e = .returned (.bool true) ∧ Pr base b bd d' (n + 1) T w' ∧ Below base w w') → Calls Try.prog 10 #[ptr b, ptr bd, x.val] w fun e w' => e = .returned (.bool true) ∧ Pr base b bd (doS x d) (n + 1) (T + x.B.size) w' ∧ Below base w w' := by
    intro d' e h
    rw [e]
    exact h.mono fun e w' ⟨h1, h2, h3⟩ => ⟨h1, pr_more h2 (Nat.le_add_right _ _), h3⟩
  have ho2 := hW w (Below.refl _ _)
  obtain ⟨k, A, B, N, fa, fn, fc, cn, ba, bn, bc, fl, bytes⟩ := x
  simp only at hx hA hB
  by_cases k0 : k = 0
  · subst k0
    exact fin _ (by simp [doS]) (do_create base b bd d n T A B N fa fn fc cn ba bn bc w hp hn hT2 hA hB)
  by_cases k1 : k = 1
  · subst k1
    have e : doS ⟨1, A, B, N, fa, fn, fc, cn, ba, bn, bc, fl, bytes⟩ d = (d.append (bs A) (bs B)).1 := by simp [doS]
    rw [e]
    exact do_append base b bd d n T A B N fa fn fc cn ba bn bc w hp hn hT2 hA hB
  by_cases k2 : k = 2
  · subst k2
    exact fin _ (by simp [doS]) (do_trunc base b bd d n T A B N fa fn fc cn ba bn bc w hp hn hT2 hA hB)
  by_cases k3 : k = 3
  · subst k3
    exact fin _ (by simp [doS]) (do_sync base b bd d n T A B N fa fn fc cn ba bn bc w hp hn hT2 hA hB)
  by_cases k4 : k = 4
  · subst k4
    exact fin _ (by simp [doS]) (do_rename base b bd d n T A B N fa fn fc cn ba bn bc w hp hn hT2 hA hB)
  by_cases k5 : k = 5
  · subst k5
    exact fin _ (by simp [doS]) (do_remove base b bd d n T A B N fa fn fc cn ba bn bc w hp hn hT2 hA hB)
  by_cases k6 : k = 6
  · subst k6
    exact fin _ (by simp [doS]) (do_syncNames base b bd d n T A B N fa fn fc cn ba bn bc w hp hn hT2 hA hB)
  by_cases k7 : k = 7
  · subst k7
    exact fin _ (by simp [doS]) (do_plan base b bd d n T A B N fa fn fc cn ba bn bc fl w hp hn (by omega) ho2.hw (fun W h => (hW W h).ft))
  by_cases k8 : k = 8
  · subst k8
    exact fin _ (by simp [doS]) (do_crash base b bd d n T A B N fa fn fc cn ba bn bc bytes w hp hn (by omega) (fun W h => (hW W h).it))
  · exact fin _ (by unfold doS; rw [if_neg k0, if_neg k1, if_neg k2, if_neg k3, if_neg k4, if_neg k5, if_neg k6, if_neg k7, if_neg k8]) (do_none k (by omega) base b bd d n T A B N fa fn fc cn ba bn bc w hp)
/- a slice of deeds, to be read -/
structure DCell (w : World) (g o : Nat) (x : DD) : Prop where
  c0 : w.cell? ⟨g, o, none⟩ = some (.int .i64 x.k)
  c1 : w.cell? ⟨g, o + 1, none⟩ = some (.string x.A)
  c2 : w.cell? ⟨g, o + 2, none⟩ = some (.string x.B)
  c3 : w.cell? ⟨g, o + 3, none⟩ = some (.int .i64 x.n)
  c4 : w.cell? ⟨g, o + 4, none⟩ = some (.slice x.fa x.fn x.fc)
  c5 : w.cell? ⟨g, o + 5, none⟩ = some (.int .i64 x.cn)
  c6 : w.cell? ⟨g, o + 6, none⟩ = some (.slice x.ba x.bn x.bc)
theorem DCell.below {w w' : World} {g o : Nat} {x : DD} (h : DCell w g o x) (hb : Below w.heap.size w w') : DCell w' g o x := ⟨cell_on hb h.c0, cell_on hb h.c1, cell_on hb h.c2, cell_on hb h.c3, cell_on hb h.c4, cell_on hb h.c5, cell_on hb h.c6⟩
structure DSl (w : World) (v : Value) (l : List DD) : Prop where
  at_ : ∃ a cap, v = .slice a l.length cap ∧ (l = [] ∨ ∃ g o, a = some ⟨g, o, none⟩ ∧ ∀ i (h : i < l.length), DCell w g (o + i * 7) (l[i]'h))
  ok : ∀ x ∈ l, x.ok w
def wts (l : List DD) : Nat := (l.map DD.wt).sum
theorem wts_len : ∀ l : List DD, l.length ≤ wts l
  | [] => Nat.zero_le _
  | x :: l => by
    have := wts_len l
    have hx : 1 ≤ x.wt := by unfold DD.wt; omega
    unfold wts at this ⊢
    rw [List.map_cons, List.sum_cons, List.length_cons]
    omega
theorem wts_mem : ∀ {l : List DD} {x : DD}, x ∈ l → x.wt ≤ wts l
  | [], _, h => by cases h
  | y :: l, x, h => by
    unfold wts
    rw [List.map_cons, List.sum_cons]
    rcases List.mem_cons.1 h with e | e
    · rw [e]; omega
    · have := wts_mem e
      unfold wts at this
      omega
def szs (l : List DD) : Nat := (l.map fun x => x.B.size).sum
theorem szs_le : ∀ l : List DD, szs l ≤ wts l
  | [] => Nat.zero_le _
  | x :: l => by
    have := szs_le l
    have hx : x.B.size ≤ x.wt := by unfold DD.wt; omega
    unfold wts szs at this ⊢
    rw [List.map_cons, List.sum_cons, List.map_cons, List.sum_cons]
    omega
theorem szs_take (l : List DD) (k : Nat) (h : k < l.length) : szs (l.take (k + 1)) = szs (l.take k) + (l[k]).B.size := by
  rw [List.take_add_one, List.getElem?_eq_getElem h]
  unfold szs
  rw [List.map_append, List.sum_append]
  simp
theorem szs_all (l : List DD) (k : Nat) : szs (l.take k) ≤ szs l := by
  have : szs l = szs (l.take k) + szs (l.drop k) := by
    conv => lhs; rw [← List.take_append_drop k l]
    unfold szs
    rw [List.map_append, List.sum_append]
  omega
/- the document's new disk -/
theorem rd_new (base : Nat) (w : World) (hb : base ≤ w.heap.size) : RD base w.heap.size ⟨.slice none 0 0, .slice none 0 0, .slice none 0 0, .slice none 0 0, .slice none 0 0, []⟩ new (w.alloc (.cells #[.slice none 0 0, .slice none 0 0, .slice none 0 0, .slice none 0 0, .slice none 0 0, .int .i64 0, .bool false] 31)) :=
  ⟨heap_alloc_new w _, hb, World.ownsRow_nil _ _ _ _, World.ownsRow_nil _ _ _ _, World.ownsRow_nil _ _ _ _, World.ownsRow_nil _ _ _ _, World.ownsRow_nil _ _ _ _, ⟨⟨[], rfl, fun f hf => by cases hf⟩, List.Pairwise.nil, (fun f hf => by cases hf), (fun f hf => by cases hf), Nat.zero_le _⟩, rise_nil, rise_nil, Nat.le_trans hb ((Below.refl _ w).alloc (Nat.le_refl _) _).size⟩
theorem iv_new : Iv new 0 0 := ⟨rfl, Nat.le_refl _, Nat.le_refl _, fun x hx => by cases hx⟩
theorem sr_two (w : World) (A B : ByteArray) : SR (w.alloc (.cells #[.string A, .string B] 9)) (.slice (some ⟨w.heap.size, 0, none⟩) 2 2) [bs A, bs B] := by
  refine ⟨_, _, rfl, Or.inr ⟨w.heap.size, 0, rfl, fun k hk => ?_⟩⟩
  rw [Nat.zero_add, Lib.cell_of_heap (heap_alloc_new w _) k]
  match k, hk with
  | 0, _ => show some (Value.string A) = some (.string (mk (bs A))); rw [mk_bs]
  | 1, _ => show some (Value.string B) = some (.string (mk (bs B))); rw [mk_bs]
set_option maxHeartbeats 4000000 in
set_option maxRecDepth 100000 in
theorem law_call (v : Value) (l : List DD) (w : World) (hD : DSl w v l) (hwt : wts l ≤ 1048576) : Calls Try.prog 3 #[v] w fun e w' => e = .returned (.bool true) ∧ Below w.heap.size w w' := by
  obtain ⟨⟨a, cap, rfl, hat⟩, hok⟩ := hD
  have HN := hid_of (new_call w)
  have HAW := hid_of awake_call
  obtain ⟨base, hbase⟩ : ∃ base, base = w.heap.size := ⟨_, rfl⟩
  have HBS := hid_of hbase
  have HAT := hid_of hat
  have HOK := hid_of hok
  have hlen : l.length ≤ 1048576 := Nat.le_trans (wts_len l) hwt
  have HWT := hid_of hwt
  obtain ⟨n, hn⟩ : ∃ n, n = l.length := ⟨_, rfl⟩
  rw [← hn] at hlen ⊢
  have HLN := hid_of hn
  rw [← hbase] at HN
  unfold ptr at HN
  clear hat hok hwt hn hbase
  go_enter Try.func3, Try.ntmps3
  go_wp2_with fail
  refine HN.out.mono ?_
  rintro e w1 ⟨rfl, hd, b1⟩
  obtain ⟨b, hb⟩ : ∃ b, b = base + 2 := ⟨_, rfl⟩
  rw [← hb] at hd ⊢
  clear hb
  have hbw : base ≤ w1.heap.size := by rw [HBS.out]; exact b1.size
  obtain ⟨bd, hbd⟩ : ∃ bd, bd = w1.heap.size := ⟨_, rfl⟩
  obtain ⟨W1, hW1⟩ : ∃ W1, W1 = w1.alloc (.cells #[.slice none 0 0, .slice none 0 0, .slice none 0 0, .slice none 0 0, .slice none 0 0, .int .i64 0, .bool false] 31) := ⟨_, rfl⟩
  have bA : Below w1.heap.size w1 W1 := by rw [hW1]; exact (Below.refl _ w1).alloc (Nat.le_refl _) _
  have P1 : Hid (Pr base b bd new 0 0 W1) := ⟨by obtain ⟨y, hy⟩ := hd; exact ⟨y, hy.below bA⟩, ⟨_, by rw [hW1, hbd]; exact rd_new base w1 hbw⟩, iv_new⟩
  have B1 : Hid (Below base w W1) := b1.trans (bA.mono hbw)
  clear hd b1 bA hbw HN
  go_wp2_with fail
  rw [← hW1, ← hbd]
  clear hW1 hbd
  refine (HAW.out _).mono ?_
  rintro e w2 ⟨rfl, b2⟩
  have P2 := hid_of (P1.out.below b2)
  have B2 : Hid (Below base w w2) := B1.out.trans (b2.mono P1.out.hb)
  clear b2
  go_wp2_with fail
  go_loopg [5] n (fun g si wx => ∃ (k : Nat) (d : Dk), k ≤ n ∧ n ≤ k + g ∧ si = .int .i64 k ∧ Hid (Pr base b bd d k (szs (l.take k)) wx ∧ Below base w wx))
  case atStart => exact ⟨0, new, by omega, by omega, rfl, P2.out, B2.out⟩
  case round =>
    obtain ⟨k, d, hk, hg, rfl, R⟩ := hrel
    by_cases hlt : k < n
    · obtain ⟨g', rfl⟩ : ∃ g', gk = g' + 1 := ⟨gk - 1, by omega⟩
      have hltl : k < l.length := by rw [← HLN.out]; exact hlt
      obtain ⟨gb, o, rfl, hcc⟩ : ∃ g o, a = some ⟨g, o, none⟩ ∧ ∀ i (h : i < l.length), DCell w g (o + i * 7) (l[i]'h) := by
        rcases HAT.out with h | h
        · subst h; cases hltl
        · exact h
      have hc := hcc k hltl
      have hox := HOK.out _ (List.getElem_mem hltl)
      have hwx := Nat.le_trans (wts_mem (List.getElem_mem hltl)) HWT.out
      have hT := Nat.le_trans (szs_all l k) (Nat.le_trans (szs_le l) HWT.out)
      have hT1 := szs_take l k hltl
      obtain ⟨T0, hT0⟩ : ∃ T0, T0 = szs (l.take k) := ⟨_, rfl⟩
      rw [← hT0] at hT hT1 R
      obtain ⟨x, hx⟩ : ∃ x, x = l[k] := ⟨_, rfl⟩
      rw [← hx] at hc hox hwx hT1
      have HT1 := hid_of hT1
      obtain ⟨K, A, B, N, fa, fn, fc, cn, ba, bn, bc, fl, bytes⟩ := x
      have hsz : A.size ≤ 1048576 ∧ B.size ≤ 1048576 := by unfold DD.wt at hwx; simp only at hwx; omega
      obtain ⟨D, hD⟩ : ∃ D, D = doS ⟨K, A, B, N, fa, fn, fc, cn, ba, bn, bc, fl, bytes⟩ d := ⟨_, rfl⟩
      have HDO : Hid (∀ W, Below wr.heap.size wr W → Calls Try.prog 10 #[.pointer (some ⟨b, 0, none⟩), .pointer (some ⟨bd, 0, none⟩), .agg #[.int .i64 K, .string A, .string B, .int .i64 N, .slice fa fn fc, .int .i64 cn, .slice ba bn bc]] W fun e w' => e = .returned (.bool true) ∧ Pr base b bd D (k + 1) (T0 + B.size) w' ∧ Below base w w') := by
        intro W hW
        have hWw : Below base w W := R.out.2.trans (hW.mono R.out.1.hb)
        refine (do_any base b bd d k T0 ⟨K, A, B, N, fa, fn, fc, cn, ba, bn, bc, fl, bytes⟩ W w (R.out.1.below hW) (by omega) (by omega) hwx hox (by rw [HBS.out]; exact Nat.le_refl _) (by rw [← HBS.out]; exact hWw)).mono ?_
        rintro e w' ⟨h1, h2, h3⟩
        rw [← hD] at h2
        exact ⟨h1, h2, hWw.trans h3⟩
      have HLK : Hid (∀ W, Pr base b bd D (k + 1) (T0 + B.size) W → Calls Try.prog 11 #[.pointer (some ⟨b, 0, none⟩), .pointer (some ⟨bd, 0, none⟩), .slice (some ⟨W.heap.size, 0, none⟩) 2 2] (W.alloc (.cells #[.string A, .string B] 9)) fun e w' => e = .returned (.bool true) ∧ Below W.heap.size W w') := by
        intro W hW
        have bW : Below W.heap.size W (W.alloc (.cells #[.string A, .string B] 9)) := (Below.refl _ W).alloc (Nat.le_refl _) _
        refine (like_call base b bd D (k + 1) (T0 + B.size) _ [bs A, bs B] _ (hW.below bW) (by omega) (sr_two W A B) (Nat.le_refl _) (fun x hx => ?_)).mono ?_
        · simp only [List.mem_cons, List.not_mem_nil, or_false] at hx
          rcases hx with rfl | rfl
          · rw [len_bs]; omega
          · rw [len_bs]; omega
        · rintro e w' ⟨h1, h2⟩
          exact ⟨h1, bW.trans (h2.mono bW.size)⟩
      have HSC : Hid (∀ W, Below base w W → W.cell? ⟨gb, o + k * 7, none⟩ = some (.int .i64 K) ∧ W.cell? ⟨gb, o + k * 7 + 1, none⟩ = some (.string A) ∧ W.cell? ⟨gb, o + k * 7 + 2, none⟩ = some (.string B) ∧ W.cell? ⟨gb, o + k * 7 + 3, none⟩ = some (.int .i64 N) ∧ W.cell? ⟨gb, o + k * 7 + 4, none⟩ = some (.slice fa fn fc) ∧ W.cell? ⟨gb, o + k * 7 + 5, none⟩ = some (.int .i64 cn) ∧ W.cell? ⟨gb, o + k * 7 + 6, none⟩ = some (.slice ba bn bc)) := fun W hW => by
        have h := hc.below (by rw [← HBS.out]; exact hW)
        exact ⟨h.c0, h.c1, h.c2, h.c3, h.c4, h.c5, h.c6⟩
      have gi : (k : Int) < (n : Int) := by omega
      have ew : IntKind.i64.wrap ((k : Int) + 1) = (k : Int) + 1 := IntWalk.i64_in _ (by omega)
      have HTE : Hid (szs (l.take (k + 1)) = T0 + B.size) := HT1.out
      clear hc hcc hox hwx hT hT1 hT0 hx HT1 hsz hD hltl P1 B1 P2 B2
      go_wp2_with fail
      go_region_held3 (fun W => W.cell? ⟨gb, o + k * 7, none⟩ = some (.int .i64 K) ∧ W.cell? ⟨gb, o + k * 7 + 1, none⟩ = some (.string A) ∧ W.cell? ⟨gb, o + k * 7 + 2, none⟩ = some (.string B) ∧ W.cell? ⟨gb, o + k * 7 + 3, none⟩ = some (.int .i64 N) ∧ W.cell? ⟨gb, o + k * 7 + 4, none⟩ = some (.slice fa fn fc) ∧ W.cell? ⟨gb, o + k * 7 + 5, none⟩ = some (.int .i64 cn) ∧ W.cell? ⟨gb, o + k * 7 + 6, none⟩ = some (.slice ba bn bc)) (first | exact HSC.out _ P4.out.2 | exact HSC.out _ (P3.out.2.alloc P3.out.1.hb _) | exact HSC.out _ P3.out.2 | exact HSC.out _ R.out.2 | exact HSC.out _ R.out.2.drew) (first
        | (go_at_call 10; refine Calls.mono (HDO.out _ (bd1 wr)) ?_; rintro e w3 ⟨rfl, p3, b3⟩; have P3 := hid_of (And.intro p3 b3); clear p3 b3)
        | (go_at_call 11; refine Calls.mono (HLK.out _ P3.out.1) ?_; rintro e w4 ⟨rfl, b4⟩; have P4 := hid_of (And.intro (P3.out.1.below b4) (P3.out.2.trans (b4.mono P3.out.1.hb))); clear b4))
      all_goals
        go_wp2_with fail
        go_roundg g'
        case measure => omega
        case rel => exact ⟨k + 1, D, by omega, by omega, by rw [show ((k + 1 : Nat) : Int) = (k : Int) + 1 from by omega], by rw [HTE.out]; exact P4.out.1, P4.out.2⟩
    · obtain rfl : k = n := by omega
      have gi : ¬ (k : Int) < (k : Int) := by omega
      go_wp2_with fail
      go_ret
      exact ⟨rfl, by rw [← HBS.out]; exact R.out.2⟩
end Go.Proofs.Ytilbffbmpgebmaa.Deeds
