/- What the beginning of a double part means: strconv.ParseUint and meantInDouble. -/
import Derived.Test.YtfkilbhhpipjbaaGreatDoorDouble
namespace Go.Proofs.YtfkilbhhpipjbaaGreatDoor.Double2
open Go.RowKit
open Go.Proofs.YtfkilbhhpipjbaaGreatDoor.TextMath
open Go.Proofs.YtfkilbhhpipjbaaGreatDoor.ReqMath
open Go.Proofs.YtfkilbhhpipjbaaGreatDoor.Base
open Go.Proofs.YtfkilbhhpipjbaaGreatDoor.Small
open Go.Proofs.YtfkilbhhpipjbaaGreatDoor.Quoted
open Go.Proofs.YtfkilbhhpipjbaaGreatDoor.Grow
open Go.Proofs.YtfkilbhhpipjbaaGreatDoor.SplitC
open Go.Proofs.YtfkilbhhpipjbaaGreatDoor.Double
set_option linter.unusedVariables false
theorem syn_cell {w : World} (h : Has w) : ∃ tp p, w.cell? ⟨4, 0, none⟩ = some (.iface tp p) := by
  obtain ⟨tp, p, hv⟩ := h.syn
  refine ⟨tp, p, ?_⟩
  have := World.var?_cell gSyn hv 0
  exact this
set_option maxRecDepth 100000 in
set_option maxHeartbeats 1000000 in
theorem pub2 (a b : UInt8) (w : World) (hh : Has w) : Calls Tryz.prog 78 #[.string ⟨#[a, b]⟩, .int .i64 16, .int .i64 8] w fun e w' =>
    ((∃ n, pre a b 2 n ∧ e = okE n) ∨ ((hexV a = none ∨ hexV b = none) ∧ ∃ N, e = .returned (.tuple #[.int .u64 0, .iface 142 (.pointer (some ⟨N, 0, none⟩))]))) ∧ Below w.heap.size w w' := by
  have H1 := hid_of (parse2 a b w)
  have HH := hid_of hh
  clear hh
  unfold okE noE at *
  go_enter Tryz.func78, Tryz.ntmps78
  go_wp2_with fail
  refine H1.out.mono ?_
  rintro e w1 ⟨⟨n, hp, rfl⟩ | ⟨hn, rfl⟩, b1⟩
  · have HB := hid_of (And.intro hp b1)
    clear hp b1
    go_wp2_with fail
    go_ret2
    exact ⟨Or.inl ⟨n, HB.out.1, rfl⟩, HB.out.2⟩
  · have HB := hid_of (And.intro hn b1)
    obtain ⟨tp, p, hc⟩ := syn_cell (HH.out.later b1)
    have H2 := hid_of (Tryz.strconv_toError_syntax ⟨#[80, 97, 114, 115, 101, 85, 105, 110, 116]⟩ ⟨#[a, b]⟩ 16 8 _ w1 (show 2 ≤ 281474976710656 by decide) hc (Or.inr ⟨tp, p, rfl⟩))
    clear hn b1 hc
    go_wp2_with fail
    refine H2.out.mono ?_
    rintro e w2 ⟨N, rfl, _, _, b2⟩
    have HB2 := hid_of (HB.out.2.trans (b2.mono HB.out.2.size))
    clear b2
    go_wp2_with fail
    go_ret2
    exact ⟨Or.inr ⟨HB.out.1, N, rfl⟩, HB2.out⟩
theorem str_24 (u : ByteArray) (y z : UInt8) (r : List UInt8) (c x : UInt8) (h : bs u = c :: x :: y :: z :: r) (w : World) : (Instr.slice 9 (.string u) (some (.int .i64 2)) (some (.int .i64 4)) none).run Tryz.prog w = .ok (.string ⟨#[y, z]⟩) w := by
  have hs : u.size = r.length + 4 := by rw [← len_bs, h]; rfl
  have e : u.extract 2 4 = ⟨#[y, z]⟩ := of_bs (by
    rw [Bulk.ext_bs, h]; rfl)
  rw [← e]
  exact run_slice_string w 9 u .i64 .i64 2 4 Tryz.underlying9 (by decide) (by decide) (by omega)
set_option maxRecDepth 100000 in
set_option maxHeartbeats 1000000 in
theorem double_means : MD := by
  intro u hu1 hu2 w hh
  obtain ⟨c, r, hc⟩ : ∃ c r, bs u = c :: r := by
    cases h : bs u with
    | nil => have := len_bs u; rw [h] at this; simp at this; omega
    | cons c r => exact ⟨c, r, rfl⟩
  have hx0 := index_at u 0 c (by rw [hc]; rfl) 0 rfl
  have hlen : u.size = r.length + 1 := by rw [← len_bs, hc]; rfl
  have HH := hid_of hh
  clear hh
  unfold two
  by_cases h92 : c = 92
  · subst h92
    cases r with
    | nil =>
      have e1 : u.size = 1 := hlen
      rw [hc]
      show Calls Tryz.prog 66 #[.string u] w fun e w' => e = .returned (.tuple #[.int .u8 92, .int .i64 1]) ∧ _
      have e2 : (u.size : Int) = 1 := by rw [e1]; rfl
      clear hlen e1 hu1 hu2
      go_enter Tryz.func66, Tryz.ntmps66
      go_wp2_with fail
      go_ret2
      exact ⟨rfl, Below.refl _ _⟩
    | cons x r =>
      have hx1 := index_at u 1 x (by rw [hc]; rfl) 1 rfl
      have e2 : (u.size : Int) = (r.length : Int) + 2 := by rw [hlen]; simp; omega
      have hne1 : ((r.length : Int) + 2 == 1) = false := by simp; omega
      have HBk := hid_of (back_call x w)
      have hbig : r.length ≤ 67108864 := by simp at hlen; omega
      rw [hc, meantD_cons, if_neg (by decide)]
      by_cases h120 : x = 120
      · subst h120
        rw [if_pos rfl]
        rcases r with _ | ⟨y, _ | ⟨z, r⟩⟩
        · show Calls Tryz.prog 66 #[.string u] w fun e w' => e = .returned (.tuple #[.int .u8 ((backV 120).toNat : Int), .int .i64 2]) ∧ _
          have e3 : (u.size : Int) = 2 := e2
          clear hlen e2 hne1 hu1 hu2 hbig
          go_enter Tryz.func66, Tryz.ntmps66
          go_wp2_with fail
          refine HBk.out.mono ?_
          rintro e w1 ⟨rfl, hw⟩
          subst hw
          go_wp2_with fail
          go_ret2
          exact ⟨rfl, Below.refl _ _⟩
        · show Calls Tryz.prog 66 #[.string u] w fun e w' => e = .returned (.tuple #[.int .u8 ((backV 120).toNat : Int), .int .i64 2]) ∧ _
          have e3 : (u.size : Int) = 3 := e2
          clear hlen e2 hne1 hu1 hu2 hbig
          go_enter Tryz.func66, Tryz.ntmps66
          go_wp2_with fail
          refine HBk.out.mono ?_
          rintro e w1 ⟨rfl, hw⟩
          subst hw
          go_wp2_with fail
          go_ret2
          exact ⟨rfl, Below.refl _ _⟩
        · have hsl := str_24 u y z r 92 120 hc
          have e3 : (u.size : Int) = (r.length : Int) + 4 := by rw [e2]; simp; omega
          have hq0 : 0 ≤ (r.length : Int) := by omega
          have HP := hid_of (fun w1 (h1 : Has w1) => pub2 y z w1 h1)
          have HBk2 := hid_of (fun w1 => back_call 120 w1)
          unfold okE at HP
          clear hlen e2 hne1 hu1 hu2 hbig HBk hc
          have hx2 : hex2 (y :: z :: r) = match hexV y, hexV z with | some x, some y => some (UInt8.ofNat (16 * x + y)) | _, _ => none := rfl
          generalize hex2 (y :: z :: r) = hh at *
          have HX2 := hid_of hx2
          clear hx2
          generalize (r.length : Int) = q at e3 hq0
          go_enter Tryz.func66, Tryz.ntmps66
          go_wp2_with fail
          refine (HP.out _ HH.out).mono ?_
          rintro e w1 ⟨⟨n, hp, rfl⟩ | ⟨hn, N, rfl⟩, b1⟩
          · have HB := hid_of b1
            obtain ⟨x, y', h1, h2, hn, hx, hy⟩ := hp
            have hv : hh = some (UInt8.ofNat n) := by rw [HX2.out, h1, h2, hn]
            subst hv
            have n255 : n ≤ 255 := by omega
            clear h1 h2 hn hx hy b1 HX2
            have HN : Hid (((UInt8.ofNat n).toNat : Int) = (n : Int)) := by
              show _ = _
              rw [UInt8.toNat_ofNat']
              omega
            go_wp2_with fail
            go_ret2
            exact ⟨by show _ = Ending.returned (.tuple #[.int .u8 ((UInt8.ofNat n).toNat : Int), .int .i64 4]); rw [HN.out]; rfl, HB.out⟩
          · have HB := hid_of b1
            have hv : hh = none := by
              rw [HX2.out]
              rcases hn with h | h
              · rw [h]
              · rw [h]; cases hexV y <;> rfl
            subst hv
            clear b1 HX2 hn
            go_wp2_with fail
            refine (HBk2.out _).mono ?_
            rintro e w2 ⟨rfl, hw⟩
            subst hw
            go_wp2_with fail
            go_ret2
            exact ⟨rfl, HB.out⟩
      · rw [if_neg h120]
        have e120 : ((x.toNat : Int) == 120) = false := by
          have : x.toNat ≠ (120 : UInt8).toNat := fun e => h120 (UInt8.toNat_inj.1 e)
          simp at this ⊢; omega
        clear h120 hlen hu1 hu2 hbig
        generalize (r.length : Int) = q at *
        go_enter Tryz.func66, Tryz.ntmps66
        go_wp2_with fail
        refine HBk.out.mono ?_
        rintro e w1 ⟨rfl, hw⟩
        subst hw
        go_wp2_with fail
        go_ret2
        exact ⟨rfl, Below.refl _ _⟩
  · have hm : meantD (bs u) = (c, 1) := by
      rw [hc]
      cases r with
      | nil => rfl
      | cons x r => rw [meantD_cons, if_pos h92]
    rw [hm]
    have e92 : ((c.toNat : Int) == 92) = false := by
      have : c.toNat ≠ (92 : UInt8).toNat := fun e => h92 (UInt8.toNat_inj.1 e)
      simp at this ⊢; omega
    clear h92 hm hlen hu1 hu2
    go_enter Tryz.func66, Tryz.ntmps66
    go_wp2_with fail
    go_ret2
    exact ⟨rfl, Below.refl _ _⟩
end Go.Proofs.YtfkilbhhpipjbaaGreatDoor.Double2
