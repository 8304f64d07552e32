/- Split. -/
import Derived.Test.YtfkilbhhpipjbaaGreatDoorWord
import Derived.Shelf.Strings.SlTrimAscii
namespace Go.Proofs.YtfkilbhhpipjbaaGreatDoor.SplitC
open Go.RowKit
open Go.Proofs.YtfkilbhhpipjbaaGreatDoor.ReqMath
open Go.Proofs.YtfkilbhhpipjbaaGreatDoor.Base
open Go.Proofs.YtfkilbhhpipjbaaGreatDoor.Small
open Go.Proofs.YtfkilbhhpipjbaaGreatDoor.Append
open Go.Proofs.YtfkilbhhpipjbaaGreatDoor.Bulk
open Go.Proofs.YtfkilbhhpipjbaaGreatDoor.Bulk2
open Go.Proofs.YtfkilbhhpipjbaaGreatDoor.BulkAny
open Go.Proofs.YtfkilbhhpipjbaaGreatDoor.Quoted
open Go.Proofs.YtfkilbhhpipjbaaGreatDoor.Grow
open Go.Proofs.YtfkilbhhpipjbaaGreatDoor.Word
set_option linter.unusedVariables false

theorem pos_S (c : UInt8) (t : List UInt8) : 0 < (meantS (c :: t)).2 ∧ (meantS (c :: t)).2 ≤ (c :: t).length := by
  unfold meantS
  split
  · rename_i h
    cases t with
    | nil => have h2 : (0 : UInt8) = 39 := h.2; exact absurd h2 (by decide)
    | cons d t => simp
  · simp
theorem meantD_cons (c x : UInt8) (r : List UInt8) : meantD (c :: x :: r) = if c ≠ 92 then (c, 1) else if x = 120 then (match hex2 r with | some v => (v, 4) | none => (backV x, 2)) else (backV x, 2) := rfl
theorem pos_D (c : UInt8) (t : List UInt8) : 0 < (meantD (c :: t)).2 ∧ (meantD (c :: t)).2 ≤ (c :: t).length := by
  cases t with
  | nil => simp [meantD]
  | cons x r =>
    rw [meantD_cons]
    split
    · simp
    · split
      · cases hh : hex2 r with
        | none => simp
        | some v =>
          match r, hh with
          | a :: b :: r, _ => simp
          | [a], hh => cases hh
          | [], hh => cases hh
      · simp
theorem part_len {q : UInt8} {m : List UInt8 → UInt8 × Nat} (hm : ∀ c t, 0 < (m (c :: t)).2 ∧ (m (c :: t)).2 ≤ (c :: t).length) : ∀ (N : Nat) (l : List UInt8), l.length ≤ N → ∀ x n, partS q m l = some (x, n) → 1 ≤ n ∧ n ≤ l.length ∧ x.length < n := by
  intro N
  induction N with
  | zero =>
    intro l hl x n h
    have : l = [] := List.length_eq_zero_iff.1 (by omega)
    subst this
    rw [part_none] at h; cases h
  | succ N ih =>
    intro l hl x n h
    cases l with
    | nil => rw [part_none] at h; cases h
    | cons c t =>
      by_cases hc : c = q
      · subst hc
        rw [part_here] at h
        cases h
        simp
      · obtain ⟨h1, h2⟩ := hm c t
        rw [part_step hc h1] at h
        cases hp : partS q m ((c :: t).drop (m (c :: t)).2) with
        | none => rw [hp] at h; cases h
        | some p =>
          obtain ⟨y, k⟩ := p
          rw [hp] at h
          cases h
          obtain ⟨q1, q2, q3⟩ := ih _ (by rw [List.length_drop]; omega) y k hp
          rw [List.length_drop, List.length_cons] at q2
          rw [List.length_cons] at h2
          simp only [List.length_cons]
          omega
def MD : Prop := ∀ u : ByteArray, 1 ≤ u.size → u.size ≤ 67108864 → Means 66 meantD u
def C34 (l : List UInt8) : Prop := 34 ∉ l ∨ MD
theorem mk_map (p : List UInt8) (n : Nat) : (some (p, n)).map (fun q : List UInt8 × Nat => (mk q.1, q.2)) = some (mk p, n) := rfl
theorem ch_quote {c : UInt8} (h : CH.contains c = true) (hb : ¬ isBlank c = true) : c = 34 ∨ c = 39 := by
  have hm := List.contains_iff_mem.1 h
  unfold CH at hm
  simp only [List.mem_cons, List.not_mem_nil, or_false] at hm
  rcases hm with rfl | rfl | rfl | rfl | rfl | rfl
  · exact absurd rfl hb
  · exact absurd rfl hb
  · exact absurd rfl hb
  · exact absurd rfl hb
  · exact Or.inl rfl
  · exact Or.inr rfl
theorem word_any (s : ByteArray) (hz : s.size ≤ 67108864) (w : World) (hh : Has w) (hC : C34 (bs s)) :
    Calls Tryz.prog 32 #[.string s] w fun e w' => WEnd e ((wordS (bs s)).map (fun q => (mk q.1, q.2))) ∧ Below w.heap.size w w' := by
  by_cases hi : Lib.indexAny (bs s) CH < 0
  · have e : wordS (bs s) = some (bs s, s.size) := by
      unfold wordS
      rw [plain_none _ hi]
      dsimp only
      rw [List.drop_length, len_bs]
    rw [e, mk_map, mk_bs]
    exact word_all s hz w hi
  · have h1 := Lib.indexAny_ge CH (bs s)
    obtain ⟨i, hi2⟩ : ∃ i : Nat, Lib.indexAny (bs s) CH = (i : Int) := ⟨(Lib.indexAny (bs s) CH).toNat, by omega⟩
    obtain ⟨h3, h4, c, r, h5, h6⟩ := plain_some (bs s) i hi2
    rw [len_bs] at h4
    have hl : ((bs s).take i).length = i := by rw [List.length_take, len_bs]; omega
    have hc : (bs s)[i]? = some c := by
      have := List.getElem?_drop (xs := bs s) (i := i) (j := 0)
      rw [h5] at this
      simpa using this.symm
    have e0 : wordS (bs s) = if isBlank c = true then some ((bs s).take i, i) else
        match partS c (if c = 34 then meantD else meantS) r with
        | none => none
        | some (x, n) => match r.drop n with
          | [] => some ((bs s).take i ++ x, i + (1 + n))
          | b :: _ => if isBlank b = true then some ((bs s).take i ++ x, i + (1 + n)) else none := by
      unfold wordS
      rw [h3]
      dsimp only
      rw [hl, h5]
      rfl
    by_cases hb : isBlank c = true
    · rw [if_pos hb] at e0
      rw [e0, mk_map]
      exact word_blank s (mk ((bs s).take i)) i hz w hi2 h4 c hc hb (bs_mk _)
    · rw [if_neg hb] at e0
      rw [e0]
      have hbf : isBlank c = false := Bool.eq_false_iff.2 hb
      have hQ : Qt s i c (mk ((bs s).take i)) (mk ((bs s).drop i)) := ⟨hi2, h4, hc, hbf, bs_mk _, bs_mk _⟩
      have hrs : (mk ((bs s).drop i)).size = s.size - i := by rw [mk_size, List.length_drop, len_bs]
      have hrb : bs (mk ((bs s).drop i)) = c :: r := by rw [bs_mk, h5]
      have hmem : c ∈ bs s := List.mem_of_getElem? hc
      have hp : ∃ K m, ((c = 34 ∧ K = 66 ∧ m = meantD) ∨ (c = 39 ∧ K = 65 ∧ m = meantS)) ∧ (if c = 34 then meantD else meantS) = m ∧ (∀ u : ByteArray, 1 ≤ u.size → (∃ p, bs (mk ((bs s).drop i)) = p ++ bs u) → Means K m u) ∧ (∀ c t, 0 < (m (c :: t)).2 ∧ (m (c :: t)).2 ≤ (c :: t).length) := by
        rcases ch_quote h6 hb with rfl | rfl
        · refine ⟨66, meantD, Or.inl ⟨rfl, rfl, rfl⟩, if_pos rfl, fun u hu ⟨p, hp⟩ => ?_, pos_D⟩
          have hus : u.size ≤ 67108864 := by
            have := congrArg List.length hp
            rw [List.length_append, len_bs, len_bs] at this
            omega
          exact hC.elim (fun h => absurd hmem h) (fun h => h u hu hus)
        · exact ⟨65, meantS, Or.inr ⟨rfl, rfl, rfl⟩, if_neg (by decide), fun u hu _ => single_means u hu, pos_S⟩
      obtain ⟨K, m, hK, hm, hM, hpos⟩ := hp
      rw [hm]
      have HQ := hid_of (fun w hh => quoted_call (mk ((bs s).drop i)) c K m (by rw [hrb]; rfl) hK hM hpos (by rw [hrs]; omega) w hh)
      have hrel : ∀ pe, pe = (match partS c m r with | none => none | some (y, n) => some (y, n + 1)) → Rel c m (mk ((bs s).drop i)) 1 [] pe := by
        intro pe hpe
        unfold Rel
        rw [hrb, hpe]
        show _ = match partS c m r with | none => none | some (y, n) => some ([] ++ y, n + 1)
        cases partS c m r with
        | none => rfl
        | some p => rfl
      cases hpp : partS c m r with
      | none =>
        rw [hpp] at hrel
        refine word_quoted s i c _ _ hz w hh hQ none none (fun w hh => (HQ.out w hh).mono fun e w' h => h none (hrel none rfl)) rfl
      | some p =>
        obtain ⟨x, n⟩ := p
        rw [hpp] at hrel
        obtain ⟨q1, q2, q3⟩ := part_len hpos r.length r (Nat.le_refl _) x n hpp
        have hrl : r.length + 1 = s.size - i := by rw [← hrs, ← len_bs, hrb]; rfl
        refine word_quoted s i c _ _ hz w hh hQ (some (x, n + 1)) _ (fun w hh => (HQ.out w hh).mono fun e w' h => h _ (hrel _ rfl)) ?_
        refine ⟨by rw [hrs]; omega, by rw [hrs]; omega, ?_⟩
        rw [bs_mk, hrb]
        dsimp only
        cases hd : r.drop n with
        | nil =>
          have : n = r.length := by have := congrArg List.length hd; rw [List.length_drop] at this; simp at this; omega
          refine Or.inl ⟨by rw [hrs]; omega, ?_⟩
          show some _ = some _
          rw [Nat.add_comm 1 n]
        | cons b t =>
          refine Or.inr ⟨b, ?_, ?_⟩
          · rw [List.getElem?_cons_succ]
            have := List.getElem?_drop (xs := r) (i := n) (j := 0)
            rw [hd] at this
            simpa using this.symm
          · by_cases hb2 : isBlank b = true
            · refine Or.inl ⟨hb2, ?_⟩
              show Option.map _ (if isBlank b = true then _ else _) = _
              rw [if_pos hb2, Nat.add_comm 1 n]
              rfl
            · refine Or.inr ⟨Bool.eq_false_iff.2 hb2, ?_⟩
              show Option.map _ (if isBlank b = true then _ else _) = _
              rw [if_neg hb2]
              rfl
theorem word_bound {l x : List UInt8} {n : Nat} {c : UInt8} {t : List UInt8} (hl : l = c :: t) (hb : isBlank c = false) (h : wordS l = some (x, n)) : 0 < n ∧ n ≤ l.length ∧ x.length ≤ l.length := by
  unfold wordS at h
  have hpl : (l.takeWhile plainC).length ≤ l.length := (List.takeWhile_prefix _).length_le
  have hsum : (l.drop (l.takeWhile plainC).length).length = l.length - (l.takeWhile plainC).length := List.length_drop
  dsimp only at h
  cases hd : l.drop (l.takeWhile plainC).length with
  | nil =>
    rw [hd] at h hsum
    cases h
    have : l.length ≠ 0 := by rw [hl]; simp
    simp at hsum
    omega
  | cons d r =>
    rw [hd] at h hsum
    dsimp only at h
    rw [List.length_cons] at hsum
    split at h
    · rename_i hbd
      cases h
      refine ⟨?_, hpl, hpl⟩
      cases hq : l.takeWhile plainC with
      | nil =>
        rw [hq, hl] at hd
        have hd' : c :: t = d :: r := hd
        cases hd'
        rw [hb] at hbd
        cases hbd
      | cons a b => simp
    · cases hp : partS d (if d = 34 then meantD else meantS) r with
      | none => rw [hp] at h; cases h
      | some p =>
        obtain ⟨y, k⟩ := p
        rw [hp] at h
        dsimp only at h
        have hm : ∀ c t, 0 < ((if d = 34 then meantD else meantS) (c :: t)).2 ∧ ((if d = 34 then meantD else meantS) (c :: t)).2 ≤ (c :: t).length := by
          intro c t
          split
          · exact pos_D c t
          · exact pos_S c t
        obtain ⟨q1, q2, q3⟩ := part_len hm r.length r (Nat.le_refl _) y k hp
        have fin : x = l.takeWhile plainC ++ y ∧ n = (l.takeWhile plainC).length + (1 + k) := by
          cases hr : r.drop k with
          | nil => rw [hr] at h; cases h; exact ⟨rfl, rfl⟩
          | cons b u =>
            rw [hr] at h
            dsimp only at h
            split at h
            · cases h; exact ⟨rfl, rfl⟩
            · cases h
        rw [fin.1, fin.2, List.length_append]
        omega
/- the loop -/
theorem info83 : (Tryz.prog.info? 83).map (fun i => (i.zero, i.size)) = some (some (.agg (Array.replicate 256 (.bool false))), 256) := by kernel_rfl
theorem blank_has (c : UInt8) : ([9, 10, 13, 32] : List UInt8).contains c = isBlank c := by
  unfold isBlank
  simp [List.contains, List.elem, Bool.or_assoc]
  cases h1 : c == 9 <;> cases h2 : c == 10 <;> cases h3 : c == 13 <;> cases h4 : c == 32 <;> rfl
theorem trim_call (s : ByteArray) (w : World) : Calls Tryz.prog 31 #[.string s, .string ⟨#[9, 10, 13, 32]⟩] w fun e w' => e = .returned (.string (mk ((bs s).dropWhile isBlank))) ∧ Below w.heap.size w w' := by
  have := Any.strings_TrimLeft_laid Tryz.lays161 info83 s ⟨#[9, 10, 13, 32]⟩ w (by decide) (by
    intro j b hb
    have hm' : b ∈ ([9, 10, 13, 32] : List UInt8) := List.mem_of_getElem? hb
    simp only [List.mem_cons, List.not_mem_nil, or_false] at hm'
    rcases hm' with rfl | rfl | rfl | rfl <;> decide)
  have e : Lib.trimLeftS s.data.toList (⟨#[9, 10, 13, 32]⟩ : ByteArray).data.toList = (bs s).dropWhile isBlank := by
    unfold Lib.trimLeftS bs
    congr 1
    funext c
    exact blank_has c
  rw [e] at this
  exact this
theorem split_nil {l : List UInt8} (h : l.dropWhile isBlank = []) : splitS l = some [] := by rw [splitS, h]
theorem split_bad {l : List UInt8} {c : UInt8} {t : List UInt8} (h : l.dropWhile isBlank = c :: t) (hw : wordS (c :: t) = none) : splitS l = none := by
  rw [splitS, h]
  dsimp only
  rw [hw]
theorem split_word {l : List UInt8} {c : UInt8} {t x : List UInt8} {n : Nat} (h : l.dropWhile isBlank = c :: t) (hw : wordS (c :: t) = some (x, n)) (hn : 0 < n) : splitS l = (splitS ((c :: t).drop n)).map (x :: ·) := by
  have hle : (c :: t).length ≤ l.length := by rw [← h]; exact (List.dropWhile_suffix _).length_le
  rw [splitS, h]
  dsimp only
  rw [hw]
  dsimp only
  rw [dif_pos ⟨hn, hle⟩]
theorem drop_head {l : List UInt8} {c : UInt8} {t : List UInt8} (h : l.dropWhile isBlank = c :: t) : isBlank c = false := by
  have := List.head?_dropWhile_not isBlank l
  rw [h] at this
  simpa using this
def SEnd (w : World) (e : Ending) (w' : World) : Option (List (List UInt8)) → Prop
  | none => e = .returned (.tuple #[.slice none 0 0, .bool false]) ∧ Below w.heap.size w w'
  | some ws => ∃ v, e = .returned (.tuple #[v, .bool true]) ∧ WS w' v ws ∧ (∀ g, v.ownBlock = some g → w.heap.size ≤ g) ∧ Below w.heap.size w w'
def SRel (l u : List UInt8) (acc : List (List UInt8)) : Prop := splitS l = (splitS u).map (acc ++ ·)
set_option maxHeartbeats 4000000 in
set_option maxRecDepth 100000 in
theorem split_call (s : ByteArray) (hz : s.size ≤ 67108864) (w : World) (hh : Has w) (hC : C34 (bs s)) :
    Calls Tryz.prog 15 #[.string s] w fun e w' => SEnd w e w' (splitS (bs s)) := by
  have HH := hid_of hh
  have HC := hid_of hC
  clear hh hC
  go_enter Tryz.func15, Tryz.ntmps15
  go_wp2_with fail
  go_loopg [0, 4, 2, 3] s.size (fun g s0 s4 _ _ wx => ∃ (u : ByteArray) (acc : List (List UInt8)), s0 = .string u ∧ u.size ≤ g ∧ Hid (u.size ≤ s.size ∧ acc.length + u.size ≤ s.size ∧ (∀ c, c ∈ bs u → c ∈ bs s) ∧ SRel (bs s) (bs u) acc ∧ WS wx s4 acc ∧ (∀ g, s4.ownBlock = some g → w.heap.size ≤ g) ∧ Below w.heap.size w wx))
  case atStart => exact ⟨s, [], rfl, Nat.le_refl _, ⟨Nat.le_refl _, by simp, fun c h => h, by unfold SRel; cases splitS (bs s) <;> rfl, World.ownsRow_nil _ _ _ _, fun g h => (by cases h), Below.refl _ _⟩⟩
  case round =>
    obtain ⟨u, acc, rfl, hg, HR⟩ := hrel
    have H1 := hid_of (trim_call u wr)
    cases hd : (bs u).dropWhile isBlank with
    | nil =>
      rw [hd] at H1
      have HE := hid_of (split_nil hd)
      clear hd
      go_wp2_with fail
      refine H1.out.mono ?_
      rintro e w1 ⟨he, b1⟩
      obtain rfl : e = .returned (.string ⟨#[]⟩) := he
      have B1 := hid_of b1
      clear b1
      go_wp2_with fail
      go_ret2
      have hrel := HR.out.2.2.2.1
      unfold SRel at hrel
      rw [HE.out] at hrel
      rw [hrel]
      refine ⟨u4, rfl, ?_, HR.out.2.2.2.2.2.1, HR.out.2.2.2.2.2.2.trans (B1.out.mono HR.out.2.2.2.2.2.2.size)⟩
      show WS w1 u4 (acc ++ [])
      rw [List.append_nil]
      exact owns_below HR.out.2.2.2.2.1 B1.out
    | cons c t =>
      rw [hd] at H1
      have hsuf : ∀ c', c' ∈ c :: t → c' ∈ bs u := fun c' h => by rw [← hd] at h; exact (List.dropWhile_suffix _).mem h
      have hul : (mk (c :: t)).size ≤ u.size := by rw [mk_size, ← hd, ← len_bs]; exact (List.dropWhile_suffix _).length_le
      have hne : (mk (c :: t)).toList.isEmpty = false := by rw [Lib.toList_data]; rfl
      have hb := drop_head hd
      have HWD := hid_of (fun w1 (hb : Below wr.heap.size wr w1) => word_any (mk (c :: t)) (by have := HR.out.1; omega) w1 ((HH.out.later HR.out.2.2.2.2.2.2).later hb) (HC.out.elim (fun h => Or.inl (fun hm => h (HR.out.2.2.1 _ (hsuf _ hm)))) Or.inr))
      rw [bs_mk] at HWD
      cases hw : wordS (c :: t) with
      | none =>
        rw [hw] at HWD
        have HE := hid_of (split_bad hd hw)
        generalize mk (c :: t) = T at H1 hne HWD
        clear hd hw hsuf hul hb
        go_wp2_with fail
        refine H1.out.mono ?_
        rintro e w1 ⟨rfl, b1⟩
        have B1 := hid_of b1
        clear b1
        go_wp2_with fail
        refine (HWD.out w1 B1.out).mono ?_
        rintro e w2 ⟨he, b2⟩
        obtain rfl : e = wd ⟨#[]⟩ 0 false := he
        have B2 : Hid (Below w.heap.size w w2) := by
          have h1 := HR.out.2.2.2.2.2.2.trans (B1.out.mono HR.out.2.2.2.2.2.2.size)
          exact h1.trans (b2.mono h1.size)
        clear b2
        go_wp2_with fail
        go_ret2
        have hrel := HR.out.2.2.2.1
        unfold SRel at hrel
        rw [HE.out] at hrel
        rw [hrel]
        exact ⟨rfl, B2.out⟩
      | some p =>
        obtain ⟨x, n⟩ := p
        rw [hw] at HWD
        obtain ⟨n1, n2, n3⟩ := word_bound rfl hb hw
        have HE := hid_of (split_word hd hw n1)
        obtain ⟨r, er, zr, sr⟩ := str_from (mk (c :: t)) n (n : Int) rfl (by rw [mk_size]; exact n2)
        rw [bs_mk] at er
        rw [← er] at HE
        have hmem : ∀ c', c' ∈ bs r → c' ∈ bs s := fun c' h => HR.out.2.2.1 _ (hsuf _ (by rw [er] at h; exact List.mem_of_mem_drop h))
        have hrs : r.size + 1 ≤ u.size := by rw [mk_size] at zr hul; omega
        have HM := hid_of hmem
        generalize mk (c :: t) = T at H1 hne HWD sr zr hul
        clear hd hw hsuf hb er n2 n3 hmem zr hul
        obtain ⟨g', rfl⟩ : ∃ g', gk = g' + 1 := ⟨gk - 1, by omega⟩
        go_wp2_with fail
        refine H1.out.mono ?_
        rintro e w1 ⟨rfl, b1⟩
        have B1 := hid_of b1
        clear b1
        go_wp2_with fail
        refine (HWD.out w1 B1.out).mono ?_
        rintro e w2 ⟨he, b2⟩
        obtain rfl : e = wd (mk x) (n : Int) true := he
        have B0 : Hid (Below wr.heap.size wr w2) := B1.out.trans (b2.mono B1.out.size)
        have B2 : Hid (Below w.heap.size w w2) := HR.out.2.2.2.2.2.2.trans (B0.out.mono HR.out.2.2.2.2.2.2.size)
        have HO : Hid ((w2.alloc (.cells #[.string (mk x)] 9)).ownsRow 8 9 1 u4 acc.length (strC acc)) := (owns_below HR.out.2.2.2.2.1 B0.out).alloc _
        have HZ : Hid (8 ≤ (w2.alloc (.cells #[.string (mk x)] 9)).heap.size) := Nat.le_trans HH.out.size (Nat.le_trans B2.out.size (by simp))
        have HU : Hid ((w2.alloc (.cells #[.string (mk x)] 9)).cell? ⟨w2.heap.size, 0, none⟩ = some (.string (mk x))) := World.cell?_alloc_new w2 #[.string (mk x)] 9 0
        have HXL : Hid (acc.length + 1 ≤ 1000000000) := by show _ ≤ _; have := HR.out.2.1; omega
        have HX : Hid (strC (acc ++ [x]) = strC acc ++ [.string (mk x)]) := by show _ = _; unfold strC; rw [List.map_append]; rfl
        have hxg : ∃ X, X = mk x := ⟨_, rfl⟩
        obtain ⟨X, hX⟩ := hxg
        rw [← hX] at HO HZ HU HX ⊢
        clear b2 hX
        go_wp2_with (at_builtin; refine wpl_one el33 rfl _ _ rfl u4 acc.length (strC acc) (w2.alloc (.cells #[.string X] 9)) ⟨w2.heap.size, 0, none⟩ 1 (.string X) HO.out HZ.out rfl rfl HU.out rfl HXL.out ?_)
        intro v' w3 hap
        have HAP : Hid (Apd 9 u4 acc.length 1 (strC acc ++ [.string X]) v' (w2.alloc (.cells #[.string X] 9)) w3) := hap
        clear hap
        go_wp2_with fail
        go_roundg g'
        case measure => omega
        case rel =>
          refine ⟨r, acc ++ [x], rfl, by omega, ⟨by have := HR.out.1; omega, ?_, HM.out, ?_, ?_, ?_, ?_⟩⟩
          · have := HR.out.2.1
            rw [List.length_append, List.length_singleton]
            omega
          · have hrel := HR.out.2.2.2.1
            unfold SRel at hrel ⊢
            rw [hrel, HE.out]
            cases splitS (bs r) with
            | none => rfl
            | some q => simp
          · unfold WS
            rw [HX.out, List.length_append]
            exact HAP.out.1
          · intro g hg
            rcases HAP.out.2.2.1 g hg with q | q
            · exact HR.out.2.2.2.2.2.1 g q
            · exact Nat.le_trans (B2.out.alloc B2.out.size (.cells #[.string X] 9)).size q
          · exact (B2.out.alloc B2.out.size (.cells #[.string X] 9)).grown HAP.out.2.1 (B2.out.alloc B2.out.size _).size HR.out.2.2.2.2.2.1
end Go.Proofs.YtfkilbhhpipjbaaGreatDoor.SplitC
