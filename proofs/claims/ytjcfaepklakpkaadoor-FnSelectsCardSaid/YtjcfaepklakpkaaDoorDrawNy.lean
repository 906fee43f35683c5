/- Drawn lists of requirements, right or not: l15Any. -/
import Derived.Test.YtjcfaepklakpkaaDoorDrawNx
import Derived.Test.YtjcfaepklakpkaaDoorDrawNl
import Derived.Test.YtjcfaepklakpkaaDoorDrawNg
import Derived.Test.YtjcfaepklakpkaaDoorDecimalS
namespace Go.Proofs.YtjcfaepklakpkaaDoor.draw
open Go.ChangeShapes Go.WideShapes Go.ChangeAt Go.RowKit ty lab need dedup
set_option linter.unusedVariables false

theorem itoa_tiny : ∀ i : Nat, i < 8 → (⟨(Lib.itoa (i : Int)).toArray⟩ : ByteArray).size ≤ 2 := by
  intro i hi
  have : i = 0 ∨ i = 1 ∨ i = 2 ∨ i = 3 ∨ i = 4 ∨ i = 5 ∨ i = 6 ∨ i = 7 := by omega
  rcases this with rfl | rfl | rfl | rfl | rfl | rfl | rfl | rfl <;> (simp [Lib.itoa, Lib.decDigits, ByteArray.size])
/-- A requirement that asks a key alone, in memory of no block. -/
theorem own_has (w : World) (B : Nat) {q : Nat} {k : ByteArray} (ht : TinyN q ⟨k, 3, []⟩) : OwnS w B 2 [.string k, .int .i64 3, .slice none 0 0] (Need.row ⟨k, 3, []⟩) [] := by
  obtain ⟨F, ho, _, hs⟩ := Need.owned (x := ⟨k, 3, []⟩) (f := 1) (w := w) (B := B) ht.wf (own_nil w B 1 1) List.nodup_nil
  have : F = [] := by
    cases F with
    | nil => rfl
    | cons a r => have := hs a List.mem_cons_self; cases this
  rw [this] at ho
  exact ho
set_option maxRecDepth 1000000 in
set_option maxHeartbeats 16000000 in
theorem anyN_any (c : Nat) (A : Option Addr) (len cap : Nat) (z : Nat → Int) (w : World) (hc : Cur w c A len cap z) :
    Calls Tryd.prog 32 #[.pointer (some ⟨c, 0, none⟩)] w (GotNL (TinyL 11 4) c A len cap z w) := by
  obtain ⟨i0, hi, hz0, hz1, hz2⟩ := info_parts TrydinfoNeed
  have hclt := hc.lt
  have HL := Lib.hid (needs_any c A len cap z w hc)
  clear hc
  go_enter Tryd.func32, Tryd.ntmps32
  go_wp2_with fail
  refine HL.out.mono ?_
  rintro e w1 ⟨l, v, f, F, hl, rfl, ho, hnd, hc1, hg1⟩
  have S1 := Lib.hid (⟨hc1, hg1, ho, hnd⟩ : StN w c A len cap z v l f F w1)
  obtain ⟨A1, c1, rfl, _⟩ := els_of Need.row_length ho.lies
  have HB := Lib.hid (once_any c A len cap z 5 w1 hc1 (by decide) (by decide))
  have Hl := Lib.hid hl
  clear HL ho hnd hc1 hg1 hl
  go_wp2_with fail
  refine HB.out.mono ?_
  rintro e w2 ⟨b, rfl, hc2, hg2⟩
  have S2 := Lib.hid (S1.out.turn hclt hc2 hg2)
  clear HB S1 hc2 hg2
  cases b with
  | false =>
    have Hl2 := Lib.hid (show TinyL (5 + 0) 4 l from Hl.out.more (by decide) (by decide))
    clear Hl
    have HB2 := Lib.hid (once_any c A len cap z 10 w2 S2.out.cur (by decide) (by decide))
    go_wp2_with fail
    refine HB2.out.mono ?_
    rintro e w5 ⟨b2, rfl, hc5, hg5⟩
    have S5 := Lib.hid (S2.out.turn hclt hc5 hg5)
    clear HB2 S2 hc5 hg5
    cases b2 with
    | false =>
      have HR := Lib.hid (S5.out.got (P := TinyL 11 4) (Hl2.out.more (by decide) (by decide)))
      go_wp2_with fail
      go_ret
      exact HR.out
    | true =>
      go_wp2_with fail
      go_loopw [3, 4] (fun vo i wr => ∃ (j : Nat) (m : List Need) (f : Nat) (F : List Nat), j ≤ 6 ∧ i = .int .i64 j ∧ Hid (TinyL (5 + j) 4 m) ∧ StN w c A len cap z vo m f F wr) (fun _ i _ => 7 - (intOf i).toNat)
      case atStart => exact ⟨0, _, _, _, by omega, rfl, Hl2.out, S5.out⟩
      case round =>
        clear S5 Hl2
        obtain ⟨j, m, f, F, hj, rfl, hm, hst⟩ := hrel
        obtain ⟨Am, cm, rfl, _⟩ := els_of Need.row_length hst.own.lies
        have S6 := Lib.hid hst
        have HB := Lib.hid (below_any c A len cap z 3 wr hst.cur (by decide) (by decide))
        clear hst
        go_wp2_with fail
        refine HB.out.mono ?_
        rintro e w6 ⟨x, hx, rfl, hc6, hg6⟩
        have S7 := Lib.hid (S6.out.turn hclt hc6 hg6)
        have hwx : IntKind.i64.wrap (3 + x) = 3 + x := IntWalk.i64_in _ (by omega)
        clear hc6 hg6 HB S6
        by_cases hlt : (j : Int) < 3 + x
        · have hj5 : j ≤ 5 := by omega
          have HD := Lib.hid (decimal.spec_any (j : Int) w6 (by omega) (by omega))
          have hts := itoa_tiny j (by omega)
          generalize (⟨(Lib.itoa (j : Int)).toArray⟩ : ByteArray) = t at HD hts
          have hm11 := hm.out.1
          go_wp2_with fail
          refine HD.out.mono ?_
          rintro e w7 ⟨rfl, hb7⟩
          have S8 := Lib.hid (S7.out.below hclt hb7)
          have hadd : ¬ 9223372036854775807 < 2 + t.size := by omega
          have htz : (⟨#[122, 122]⟩ ++ t : ByteArray).size ≤ 10 := by
            rw [ByteArray.size_append]
            have : (⟨#[122, 122]⟩ : ByteArray).size = 2 := rfl
            omega
          have hty : TinyN 4 ⟨⟨#[122, 122]⟩ ++ t, 3, []⟩ := ⟨htz, (show (-1 : Int) ≤ 3 by decide), (show (3 : Int) ≤ 6 by decide), by simp, fun s hs => by cases hs⟩
          obtain ⟨e0, xs, hrX, hrd, hones, hsX, hgrow⟩ := grow_list (T := 30) 30 S8.out hclt S8.out.cur (World.grownBy.refl _ _) (own_has w7 w7.heap.size hty) List.nodup_nil rfl
          have HM := Lib.hid (hm.out.snoc hty)
          have HrX := Lib.hid hrX
          have Hrd := Lib.hid hrd
          have Hones := Lib.hid hones
          have HsX := Lib.hid hsX
          have HGr := Lib.hid hgrow
          clear HD S7 S8 hb7 hrX hrd hones hsX hgrow hty
          go_wp2_with (first | (at_builtin; refine wpList_append_anyE rfl (.tmp 23) (.tmp 28) 24 rfl w.heap.size 30 e0 i0 _ 3 48 Tryd.underlying24 hi hz0 hz1 hz2 rfl (by decide) _ m.length xs rfl HrX.out w7.heap.size 1 1 [.string (⟨#[122, 122]⟩ ++ t), .int .i64 3, .slice none 0 0] rfl Hrd.out (by decide) Hones.out (by unfold maxLen; omega) (by omega) HsX.out ?_) | fail)
          intro v9 w9 e9 hown9 hg9 hat9
          obtain ⟨F9, hS9⟩ := HGr.out v9 w9 e9 hown9 hg9 hat9
          have S9 := Lib.hid hS9
          clear hown9 hg9 hat9 hS9 HrX Hrd Hones HsX HGr
          go_wp2_with fail
          go_roundw
          case rel => exact ⟨j + 1, _, _, F9, by omega, by go_num, HM.out, S9.out⟩
          case measure => simp [intOf]; omega
        · have HR := Lib.hid (S7.out.got (P := TinyL 11 4) (hm.out.more (by omega) (by decide)))
          go_wp2_with fail
          go_ret
          exact HR.out
  | true =>
    have HN := Lib.hid (anyneed_any c A len cap z w2 S2.out.cur)
    have hl4 := Hl.out.1
    go_wp2_with fail
    refine HN.out.mono ?_
    rintro e w3 ⟨y, us, G, hy, rfl, hoG, hnG, hc3, hg3⟩
    obtain ⟨u0, u1, u2, rfl⟩ := us3 hoG
    obtain ⟨e0, xs, hrX, hrd, hones, hsX, hgrow⟩ := grow_list (T := 30) 30 S2.out hclt hc3 hg3 hoG hnG rfl
    have Hl2 := Lib.hid (show TinyL (5 + 0) 4 (l ++ [y]) from (Hl.out.more (Nat.le_refl 4) (show 3 ≤ 4 by decide)).snoc hy)
    have HrX := Lib.hid hrX
    have Hrd := Lib.hid hrd
    have Hones := Lib.hid hones
    have HsX := Lib.hid hsX
    have HGr := Lib.hid hgrow
    clear HN S2 hoG hnG hc3 hg3 hrX hrd hones hsX hgrow Hl
    go_wp2_with (first | (at_builtin; refine wpList_append_anyE rfl (.tmp 9) (.tmp 12) 24 rfl w.heap.size 30 e0 i0 _ 3 48 Tryd.underlying24 hi hz0 hz1 hz2 rfl (by decide) _ l.length xs rfl HrX.out w3.heap.size 1 1 [u0, u1, u2] rfl Hrd.out (by decide) Hones.out (by unfold maxLen; omega) (by omega) HsX.out ?_) | fail)
    intro v4 w4 e4 hown4 hg4 hat4
    obtain ⟨F4, hS4⟩ := HGr.out v4 w4 e4 hown4 hg4 hat4
    obtain ⟨A4, c4, rfl, _⟩ := els_of Need.row_length hS4.own.lies
    rw [show (l ++ [y]).length = l.length + 1 by simp] at hS4
    have S2 := Lib.hid hS4
    clear hown4 hg4 hat4 hS4 HrX Hrd Hones HsX HGr
    have HB2 := Lib.hid (once_any c A len cap z 10 w4 S2.out.cur (by decide) (by decide))
    go_wp2_with fail
    refine HB2.out.mono ?_
    rintro e w5 ⟨b2, rfl, hc5, hg5⟩
    have S5 := Lib.hid (S2.out.turn hclt hc5 hg5)
    clear HB2 S2 hc5 hg5
    cases b2 with
    | false =>
      have HR := Lib.hid (S5.out.got (P := TinyL 11 4) (Hl2.out.more (by decide) (by decide)))
      go_wp2_with fail
      go_ret
      exact HR.out
    | true =>
      go_wp2_with fail
      go_loopw [3, 4] (fun vo i wr => ∃ (j : Nat) (m : List Need) (f : Nat) (F : List Nat), j ≤ 6 ∧ i = .int .i64 j ∧ Hid (TinyL (5 + j) 4 m) ∧ StN w c A len cap z vo m f F wr) (fun _ i _ => 7 - (intOf i).toNat)
      case atStart => exact ⟨0, _, _, _, by omega, rfl, Hl2.out, S5.out⟩
      case round =>
        clear S5 Hl2
        obtain ⟨j, m, f, F, hj, rfl, hm, hst⟩ := hrel
        obtain ⟨Am, cm, rfl, _⟩ := els_of Need.row_length hst.own.lies
        have S6 := Lib.hid hst
        have HB := Lib.hid (below_any c A len cap z 3 wr hst.cur (by decide) (by decide))
        clear hst
        go_wp2_with fail
        refine HB.out.mono ?_
        rintro e w6 ⟨x, hx, rfl, hc6, hg6⟩
        have S7 := Lib.hid (S6.out.turn hclt hc6 hg6)
        have hwx : IntKind.i64.wrap (3 + x) = 3 + x := IntWalk.i64_in _ (by omega)
        clear hc6 hg6 HB S6
        by_cases hlt : (j : Int) < 3 + x
        · have hj5 : j ≤ 5 := by omega
          have HD := Lib.hid (decimal.spec_any (j : Int) w6 (by omega) (by omega))
          have hts := itoa_tiny j (by omega)
          generalize (⟨(Lib.itoa (j : Int)).toArray⟩ : ByteArray) = t at HD hts
          have hm11 := hm.out.1
          go_wp2_with fail
          refine HD.out.mono ?_
          rintro e w7 ⟨rfl, hb7⟩
          have S8 := Lib.hid (S7.out.below hclt hb7)
          have hadd : ¬ 9223372036854775807 < 2 + t.size := by omega
          have htz : (⟨#[122, 122]⟩ ++ t : ByteArray).size ≤ 10 := by
            rw [ByteArray.size_append]
            have : (⟨#[122, 122]⟩ : ByteArray).size = 2 := rfl
            omega
          have hty : TinyN 4 ⟨⟨#[122, 122]⟩ ++ t, 3, []⟩ := ⟨htz, (show (-1 : Int) ≤ 3 by decide), (show (3 : Int) ≤ 6 by decide), by simp, fun s hs => by cases hs⟩
          obtain ⟨e0, xs, hrX, hrd, hones, hsX, hgrow⟩ := grow_list (T := 30) 30 S8.out hclt S8.out.cur (World.grownBy.refl _ _) (own_has w7 w7.heap.size hty) List.nodup_nil rfl
          have HM := Lib.hid (hm.out.snoc hty)
          have HrX := Lib.hid hrX
          have Hrd := Lib.hid hrd
          have Hones := Lib.hid hones
          have HsX := Lib.hid hsX
          have HGr := Lib.hid hgrow
          clear HD S7 S8 hb7 hrX hrd hones hsX hgrow hty
          go_wp2_with (first | (at_builtin; refine wpList_append_anyE rfl (.tmp 23) (.tmp 28) 24 rfl w.heap.size 30 e0 i0 _ 3 48 Tryd.underlying24 hi hz0 hz1 hz2 rfl (by decide) _ m.length xs rfl HrX.out w7.heap.size 1 1 [.string (⟨#[122, 122]⟩ ++ t), .int .i64 3, .slice none 0 0] rfl Hrd.out (by decide) Hones.out (by unfold maxLen; omega) (by omega) HsX.out ?_) | fail)
          intro v9 w9 e9 hown9 hg9 hat9
          obtain ⟨F9, hS9⟩ := HGr.out v9 w9 e9 hown9 hg9 hat9
          have S9 := Lib.hid hS9
          clear hown9 hg9 hat9 hS9 HrX Hrd Hones HsX HGr
          go_wp2_with fail
          go_roundw
          case rel => exact ⟨j + 1, _, _, F9, by omega, by go_num, HM.out, S9.out⟩
          case measure => simp [intOf]; omega
        · have HR := Lib.hid (S7.out.got (P := TinyL 11 4) (hm.out.more (by omega) (by decide)))
          go_wp2_with fail
          go_ret
          exact HR.out
end Go.Proofs.YtjcfaepklakpkaaDoor.draw
