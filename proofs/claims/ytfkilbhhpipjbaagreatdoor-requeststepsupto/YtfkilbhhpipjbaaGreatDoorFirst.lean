/- The first line of a thing. -/
import Derived.Test.YtfkilbhhpipjbaaGreatDoorTyped
namespace Go.Proofs.YtfkilbhhpipjbaaGreatDoor.First
open Go.RowKit
open Go.Proofs.YtfkilbhhpipjbaaGreatDoor.TextMath
open Go.Proofs.YtfkilbhhpipjbaaGreatDoor.ReqMath
open Go.Proofs.YtfkilbhhpipjbaaGreatDoor.Base
open Go.Proofs.YtfkilbhhpipjbaaGreatDoor.Line
open Go.Proofs.YtfkilbhhpipjbaaGreatDoor.Small
open Go.Proofs.YtfkilbhhpipjbaaGreatDoor.Append
open Go.Proofs.YtfkilbhhpipjbaaGreatDoor.Bulk
open Go.Proofs.YtfkilbhhpipjbaaGreatDoor.Bulk2
open Go.Proofs.YtfkilbhhpipjbaaGreatDoor.BulkAny
open Go.Proofs.YtfkilbhhpipjbaaGreatDoor.SplitC
open Go.Proofs.YtfkilbhhpipjbaaGreatDoor.Typed
set_option linter.unusedVariables false

inductive FR where
  | more
  | fault (w : List UInt8)
  | arr (n k : Nat)
  | words (n : Nat) (ws : List (List UInt8))
def textR (L : Lim) (x : List UInt8) (n : Nat) : FR :=
  if x.headD 0 = 42 then
    match countS L.args x.tail with
    | none => .fault wCount
    | some k => .arr n k
  else match typedS L x with
    | .error w => .fault w
    | .ok ws => .words n ws
def firstR (L : Lim) (l : List UInt8) : FR :=
  match lineS L.line l with
  | .more => .more
  | .long => .fault wLine
  | .got x n => textR L x n
theorem thing_first (L : Lim) (l : List UInt8) : thingS L l = match firstR L l with
    | .more => .more
    | .fault w => .fault w
    | .arr n k => (arrS L k [] (l.drop n)).add n
    | .words n ws => .done n ws := by
  unfold thingS firstR
  cases lineS L.line l with
  | more => rfl
  | long => rfl
  | got x n =>
    dsimp only
    unfold firstS textR
    by_cases h : x.headD 0 = 42
    · rw [if_pos h, if_pos h]
      cases countS L.args x.tail <;> rfl
    · rw [if_neg h, if_neg h]
      cases typedS L x <;> rfl
def FirstEnd (b : Nat) (L : Lim) (lv : Value) (t : ByteArray) (k : Nat) (wv : Value) (read used : Nat) (w : World) (e : Ending) (w' : World) : FR → Prop
  | .more => e = gaveUp [] ∧ ∃ k', RS b L lv t k' wv [] 0 read used w' ∧ Fr (FB b wv) w w'
  | .fault wd => e = gaveUp wd ∧ RB b L lv k wv 0 read used ⟨#[]⟩ w' ∧ Fr (FB b wv) w w'
  | .arr n kk => e = .returned (.tuple #[]) ∧ 0 < n ∧ n ≤ t.size ∧ kk ≤ L.args ∧ ∃ lv', RS b L lv' (t.extract n t.size) 0 wv [] kk (read + n) used w' ∧ (∀ g, slBlock lv' = some g → slBlock lv = some g) ∧ Fr (FB b wv) w w'
  | .words n ws => e = .returned (.tuple #[]) ∧ 0 < n ∧ n ≤ t.size ∧ ∃ lv' wv', RS b L lv' (t.extract n t.size) 0 wv' ws 0 (read + n) used w' ∧ (∀ g, slBlock lv' = some g → slBlock lv = some g) ∧ (∀ g, wv'.ownBlock = some g → w.heap.size ≤ g) ∧ Fr (FB b wv) w w'
theorem cut_star (x : ByteArray) (w : World) : Calls Tryz.prog 82 #[.string x, .string ⟨#[42]⟩] w fun e w' => e = .returned (.tuple #[.string (if (bs x).headD 0 = 42 then mk (bs x).tail else x), .bool (decide ((bs x).headD 0 = 42))]) ∧ w' = w := by
  have := Tryz.strings_CutPrefix x ⟨#[42]⟩ w
  have e1 : Lib.hasPrefix x.data.toList (⟨#[42]⟩ : ByteArray).data.toList = decide ((bs x).headD 0 = 42) := by
    show Lib.hasPrefix (bs x) [42] = _
    unfold Lib.hasPrefix
    cases bs x with
    | nil => rfl
    | cons c r =>
      show ((42 : UInt8) == c && true) = decide (c = 42)
      rw [Bool.and_true, Bool.eq_iff_iff, beq_iff_eq, decide_eq_true_iff]
      exact ⟨Eq.symm, Eq.symm⟩
  have e2 : (⟨(Lib.trimPrefix x.data.toList (⟨#[42]⟩ : ByteArray).data.toList).toArray⟩ : ByteArray) = if (bs x).headD 0 = 42 then mk (bs x).tail else x := by
    unfold Lib.trimPrefix
    rw [e1]
    by_cases h : (bs x).headD 0 = 42
    · rw [if_pos h, if_pos (decide_eq_true h), ← List.drop_one]
      rfl
    · rw [if_neg h, if_neg (by rw [decide_eq_false h]; decide)]
  rw [e1, e2] at this
  exact this
theorem got_parts {most : Nat} {l x : List UInt8} {n : Nat} (h : lineS most l = .got x n) : ∃ i, n = i + 1 ∧ nl l = some i ∧ i ≤ most ∧ x = Lib.trimSuffix (l.take i) [13] ∧ i < l.length ∧ x.length ≤ i ∧ ∀ c, c ∈ x → c ∈ l := by
  unfold lineS at h
  cases hi : nl l with
  | none => rw [hi] at h; dsimp only at h; split at h <;> cases h
  | some i =>
    rw [hi] at h
    dsimp only at h
    split at h
    · cases h
    · rename_i hm
      injection h with h1 h2
      have hlt := nl_lt l i hi
      refine ⟨i, h2.symm, rfl, by omega, h1.symm, hlt, ?_, ?_⟩
      · rw [← h1]
        have := Lib.trimSuffix_le (l.take i) [13]
        rw [List.length_take] at this
        omega
      · intro c hc
        rw [← h1] at hc
        unfold Lib.trimSuffix at hc
        split at hc
        · exact List.mem_of_mem_take (List.mem_of_mem_take hc)
        · exact List.mem_of_mem_take hc
set_option maxHeartbeats 2000000 in
set_option maxRecDepth 100000 in
theorem first_call (b : Nat) (L : Lim) (lv : Value) (t : ByteArray) (k : Nat) (wv : Value) (read used : Nat) (w : World) (hL : Lok L) (h : RS b L lv t k wv [] 0 read used w) (hd : Bd t [] 0 read used) (hh : Has w) (hb8 : 8 ≤ b) (hC : C34 (bs t)) :
    Calls Tryz.prog 69 #[.pointer (some ⟨b, 0, none⟩)] w fun e w' => FirstEnd b L lv t k wv read used w e w' (firstR L (bs t)) := by
  unfold firstR
  cases hl : lineS L.line (bs t) with
  | more =>
    obtain ⟨hnn, hm⟩ : nl (bs t) = none ∧ t.size ≤ L.line := by
      unfold lineS at hl
      cases hq : nl (bs t) with
      | none =>
        rw [hq] at hl
        dsimp only at hl
        split at hl
        · cases hl
        · rename_i h0; rw [len_bs] at h0; exact ⟨rfl, by omega⟩
      | some i => rw [hq] at hl; dsimp only at hl; split at hl <;> cases hl
    have H1 := hid_of (line_more b L lv k wv 0 read used _ t w h.rb h.sl h.kl h.kn hd.ht hL.line.2 hnn hm)
    have HX := hid_of (And.intro hnn h)
    clear h hl hnn hd hh hC
    go_enter Tryz.func69, Tryz.ntmps69
    go_wp2_with fail
    refine H1.out.mono ?_
    rintro e w1 ⟨rfl, n, rfl⟩
    refine ⟨rfl, rfl, t.size, ?_, wide1 set_below⟩
    exact rs_one HX.out.2 set_below (set_at HX.out.2.rb _) (Nat.le_refl _) (by rw [List.take_of_length_le (by rw [len_bs]; omega)]; exact HX.out.1)
  | long =>
    have H1 := hid_of (line_long b L lv k wv 0 read used _ t w h.rb h.sl h.kl h.kn hd.ht hL.line.2 hl)
    have HX := hid_of h
    clear h hl hd hh hC
    go_enter Tryz.func69, Tryz.ntmps69
    go_wp2_with fail
    refine H1.out.mono ?_
    rintro e w1 ⟨rfl, n, rfl⟩
    exact ⟨rfl, rfl, rb_later HX.out.rb (bdN _ _), Fr.of_below (bdN _ _)⟩
  | got x n =>
    obtain ⟨i, rfl, hi, him, hxt, hit, hxl, hxm⟩ := got_parts hl
    rw [len_bs] at hit
    have hzt := hd.ht
    have H1 := hid_of (line_got b L lv k wv 0 read used _ t (mk x) i w h.rb h.sl h.kl h.kn hd.ht hL.line.2 hi him (by rw [bs_mk]; exact hxt))
    have H2 := hid_of (fun w => cut_star (mk x) w)
    rw [bs_mk] at H2
    have HS := hid_of h
    have HH := hid_of hh
    have hrd : read ≤ 67108864 := by have := hd.hread; omega
    dsimp only
    unfold textR
    by_cases h42 : x.headD 0 = 42
    · rw [if_pos h42]
      rw [decide_eq_true h42] at H2
      rw [if_pos h42] at H2
      cases hc : countS L.args x.tail with
      | none =>
        have H3 := hid_of (fun q => count_not (mk x.tail) L.args ⟨wCount.toArray⟩ (w.drewN q) (by have := hL.args.2; omega) (hh.later (bdN w q)) (by rw [mk_size, List.length_tail]; omega) (by rw [bs_mk]; exact hc))
        have c1 : w.cell? ⟨b, 1, none⟩ = _ := h.rb.cell 1
        generalize mk x.tail = D at H2 H3
        generalize mk x = X at H1 H2
        clear h hl hd hh hC hi hxt hc h42 hxm
        dsimp only
        go_enter Tryz.func69, Tryz.ntmps69
        go_wp2_with fail
        refine H1.out.mono ?_
        rintro e w1 ⟨rfl, q, rfl⟩
        go_wp2_with fail
        refine (H2.out _).mono ?_
        rintro e w2 ⟨rfl, hw⟩
        subst hw
        go_wp2_with fail
        refine (H3.out q).mono ?_
        rintro e w3 ⟨rfl, b3⟩
        have B3 : Below w.heap.size w w3 := (bdN w q).trans b3
        exact ⟨rfl, rfl, rb_later HS.out.rb B3, Fr.of_below B3⟩
      | some kk =>
        obtain ⟨hdd, hkk⟩ := count_some hc
        have H3 := hid_of (fun q => count_ok (mk x.tail) L.args kk ⟨wCount.toArray⟩ (w.drewN q) (by rw [bs_mk]; exact hdd) hkk (by have := hL.args.2; omega) (hh.later (bdN w q)) (by rw [mk_size, List.length_tail]; omega))
        have c1 : w.cell? ⟨b, 1, none⟩ = _ := h.rb.cell 1
        generalize mk x.tail = D at H2 H3
        generalize mk x = X at H1 H2
        clear h hl hd hh hC hi hxt hc h42 hxm hdd
        dsimp only
        go_enter Tryz.func69, Tryz.ntmps69
        go_wp2_with fail
        refine H1.out.mono ?_
        rintro e w1 ⟨rfl, q, rfl⟩
        go_wp2_with fail
        refine (H2.out _).mono ?_
        rintro e w2 ⟨rfl, hw⟩
        subst hw
        go_wp2_with fail
        refine (H3.out q).mono ?_
        rintro e w3 ⟨rfl, b3⟩
        have B3 : Hid (Below w.heap.size w w3) := (bdN w q).trans b3
        have r3 := rb_later HS.out.rb B3.out
        have f6 : w3.cell? ⟨b, 6, none⟩ = _ := r3.cell 6
        have z6 : w3.frozen? ⟨b, 6, none⟩ = false := r3.frozen 6
        have R3 := hid_of r3
        clear b3 r3
        go_wp2_with fail
        have S3 := rs_below HS.out B3.out
        have F4 : Fr (fun q => q = b) w3 (w3.setCell ⟨b, 6, none⟩ (.int .i64 (kk : Int))) := (Fr.refl _ w3).one _
        have S4 : RS b L lv t k wv [] kk read used (w3.setCell ⟨b, 6, none⟩ (.int .i64 (kk : Int))) := rs_one S3 F4 (set_at S3.rb _) S3.kl S3.kn
        have HF4 : Hid (Fr (FB b wv) w (w3.setCell ⟨b, 6, none⟩ (.int .i64 (kk : Int)))) := (Fr.of_below B3.out).trans (wide1 F4)
        have HS4 := hid_of S4
        generalize w3.setCell ⟨b, 6, none⟩ (.int .i64 (kk : Int)) = w4 at S4 HF4 HS4 ⊢
        clear F4 S3
        refine (take_call b L _ k _ kk read used _ t (i + 1) _ w4 S4.rb S4.sl (by omega) (by omega) hzt hrd).mono ?_
        clear S4
        rintro e w5 ⟨rfl, lv', r5, s5, sb5, fr5⟩
        have HR5 := hid_of (And.intro r5 (And.intro s5 (And.intro sb5 fr5)))
        clear r5 s5 sb5 fr5
        go_wp2_with fail
        go_end0
        obtain ⟨r5, s5, sb5, fr5⟩ := HR5.out
        exact ⟨rfl, by omega, by omega, hkk, lv', ⟨r5, s5, ws_later HS4.out.wk (fun g hg => fr5.block g (by obtain ⟨c, hc⟩ := owns_kind HS4.out.wk g hg; exact lt_of hc) (fun e => ws_ne HS4.out.rb HS4.out.wk (e ▸ hg))), Nat.zero_le _, rfl⟩, sb5, HF4.out.trans (wide1 fr5)⟩
    · rw [if_neg h42]
      rw [decide_eq_false h42] at H2
      rw [if_neg h42] at H2
      have H3 := hid_of (fun q => typed_call b L lv k wv 0 read used _ (mk x) (w.drewN q) (rb_later h.rb (bdN w q)) (by rw [mk_size]; omega) (hh.later (bdN w q)) (by rw [bs_mk]; exact hC.elim (fun hn => Or.inl (fun hm => hn (hxm _ hm))) Or.inr))
      rw [bs_mk] at H3
      cases hty : typedS L x with
      | error wd =>
        rw [hty] at H3
        generalize mk x = X at H1 H2 H3
        clear h hl hd hh hC hi hxt h42 hxm hty
        dsimp only
        go_enter Tryz.func69, Tryz.ntmps69
        go_wp2_with fail
        refine H1.out.mono ?_
        rintro e w1 ⟨rfl, q, rfl⟩
        go_wp2_with fail
        refine (H2.out _).mono ?_
        rintro e w2 ⟨rfl, hw⟩
        subst hw
        go_wp2_with fail
        refine (H3.out q).mono ?_
        rintro e w3 ⟨rfl, b3⟩
        have B3 : Below w.heap.size w w3 := (bdN w q).trans b3
        exact ⟨rfl, rfl, rb_later HS.out.rb B3, Fr.of_below B3⟩
      | ok ws =>
        rw [hty] at H3
        generalize mk x = X at H1 H2 H3
        clear h hl hd hh hC hi hxt h42 hxm hty
        dsimp only
        go_enter Tryz.func69, Tryz.ntmps69
        go_wp2_with fail
        refine H1.out.mono ?_
        rintro e w1 ⟨rfl, q, rfl⟩
        go_wp2_with fail
        refine (H2.out _).mono ?_
        rintro e w2 ⟨rfl, hw⟩
        subst hw
        go_wp2_with fail
        refine (H3.out q).mono ?_
        rintro e w3 ⟨v, rfl, hv, hvb, b3⟩
        have B3 : Hid (Below w.heap.size w w3) := (bdN w q).trans b3
        have r3 := rb_later HS.out.rb B3.out
        have f5 : w3.cell? ⟨b, 5, none⟩ = _ := r3.cell 5
        have z5 : w3.frozen? ⟨b, 5, none⟩ = false := r3.frozen 5
        have hf : ∃ a c, v = .slice a ws.length c := by
          rcases ws_form hv with ⟨h1, h2⟩ | ⟨g, cap, h1⟩
          · exact ⟨none, 0, by rw [h1, h2]; rfl⟩
          · exact ⟨_, _, h1⟩
        obtain ⟨a, c, rfl⟩ := hf
        have HV := hid_of (And.intro hv hvb)
        clear b3 r3 hv hvb
        go_wp2_with fail
        have S3 := rs_below HS.out B3.out
        have F4 : Fr (fun q => q = b) w3 (w3.setCell ⟨b, 5, none⟩ (.slice a ws.length c)) := (Fr.refl _ w3).one _
        have hvn := ws_ne S3.rb HV.out.1
        have S4 : RS b L lv t k (.slice a ws.length c) ws 0 read used (w3.setCell ⟨b, 5, none⟩ (.slice a ws.length c)) :=
          ⟨set_at S3.rb _, by_set S3.sl S3.rb, owns_set HV.out.1 hvn, S3.kl, S3.kn⟩
        have HF4 : Hid (Fr (FB b wv) w (w3.setCell ⟨b, 5, none⟩ (.slice a ws.length c))) := (Fr.of_below B3.out).trans (wide1 F4)
        have HS4 := hid_of S4
        generalize w3.setCell ⟨b, 5, none⟩ (.slice a ws.length c) = w4 at S4 HF4 HS4 ⊢
        clear F4 S3 hvn
        refine (take_call b L _ k _ 0 read used _ t (i + 1) _ w4 S4.rb S4.sl (by omega) (by omega) hzt hrd).mono ?_
        clear S4
        rintro e w5 ⟨rfl, lv', r5, s5, sb5, fr5⟩
        have HR5 := hid_of (And.intro r5 (And.intro s5 (And.intro sb5 fr5)))
        clear r5 s5 sb5 fr5
        go_wp2_with fail
        go_end0
        obtain ⟨r5, s5, sb5, fr5⟩ := HR5.out
        exact ⟨rfl, by omega, by omega, lv', _, ⟨r5, s5, ws_later HS4.out.wk (fun g hg => fr5.block g (by obtain ⟨c, hc⟩ := owns_kind HS4.out.wk g hg; exact lt_of hc) (fun e => ws_ne HS4.out.rb HS4.out.wk (e ▸ hg))), Nat.zero_le _, rfl⟩, sb5, HV.out.2, HF4.out.trans (wide1 fr5)⟩
end Go.Proofs.YtfkilbhhpipjbaaGreatDoor.First
