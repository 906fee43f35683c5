/- Drawn lists, right or not: l16AnyTaints. Printed by gen/gen_dl.py. -/
import Derived.Test.YtpadpiibiocabaaDoorDrawTaints
namespace Go.Proofs.YtpadpiibiocabaaDoor.draw
open Go.ChangeShapes Go.WideShapes Go.ChangeAt Go.RowKit ty lab dedup taint need
set_option linter.unusedVariables false

theorem fl_Taint (w : World) (f : Nat) (x : Taint) (j : Nat) (d : C) (u : Value) (h : x.row[j]? = some d) (hl : Lies w f u d) : x.cells[j]? = some u := by
  match j, h with
  | 0, h =>
    simp [Taint.row] at h
    subst h
    have e := hl.str.1
    subst e
    rfl
  | 1, h =>
    simp [Taint.row] at h
    subst h
    have e := hl.str.1
    subst e
    rfl
  | 2, h =>
    simp [Taint.row] at h
    subst h
    have e := hl.int.1
    subst e
    rfl
  | j + 3, h => simp [Taint.row] at h
/-- A slice's length. -/
def lenOfTaint : Value → Nat
  | .slice _ n _ => n
  | _ => 0
set_option maxRecDepth 1000000 in
set_option maxHeartbeats 16000000 in
theorem anyTaints_any (c : Nat) (A : Option Addr) (len cap : Nat) (z : Nat → Int) (w : World) (hc : Cur w c A len cap z) :
    Calls Tryd.prog 47 #[.pointer (some ⟨c, 0, none⟩)] w (GotF 3 Taint.row (fun l => l.length ≤ 41 ∧ ∀ x ∈ l, TinyT 5 x) c A len cap z w) := by
  obtain ⟨i0, hi, hz0, hz1, hz2⟩ := info_parts TrydinfITaint
  have hclt := hc.lt
  have HL := Lib.hid (Taints_any c A len cap z w hc)
  clear hc
  go_enter Tryd.func47, Tryd.ntmps47
  go_wp2_with fail
  refine HL.out.mono ?_
  rintro e w1 ⟨l, v, f, F, ⟨hl4, htiny⟩, rfl, ho, hnd, hc1, hg1⟩
  obtain ⟨e0, hst⟩ := StF.of_got Taint.row_length Taint.cells_len fl_Taint 32 ho hc1 hg1
  have S1 := Lib.hid hst
  have HT := Lib.hid htiny
  have Hl4 := Lib.hid hl4
  clear HL ho hnd hc1 hg1 hst htiny hl4
  go_wp2_with fail
  go_loopw [3, 4] (fun vo i wr => ∃ (j : Nat) (m : List Taint) (q : TypeId), j ≤ 4 ∧ i = .int .i64 j ∧ m.length ≤ 4 + j ∧ Hid (∀ x ∈ m, TinyT 5 x) ∧ StF 3 Taint.cells w c A len cap z q vo m wr) (fun _ i _ => 4 - (intOf i).toNat)
  case atStart => exact ⟨0, l, e0, by omega, rfl, by have := Hl4.out; omega, HT.out, S1.out⟩
  case round =>
    clear S1 HT Hl4
    obtain ⟨j, m, q, hj, rfl, hml, htm, hst⟩ := hrel
    obtain ⟨Am, cm, rfl⟩ := own_is_slice hst.row
    have S3 := Lib.hid hst
    have HB := Lib.hid (below_any c A len cap z 4 wr hst.cur (by decide) (by decide))
    clear hst
    go_wp2_with fail
    refine HB.out.mono ?_
    rintro e w4 ⟨x, hx, rfl, hc4, hg4⟩
    have S4 := Lib.hid (S3.out.turn hclt hc4 hg4)
    clear hg4 HB S3
    by_cases hlt : (j : Int) < x
    · have hj5 : j ≤ 3 := by omega
      have HK := Lib.hid (anyTaint_any c A len cap z w4 hc4)
      clear hc4
      go_wp2_with fail
      refine HK.out.mono ?_
      rintro e w5 ⟨xl, hxt, he, hc5, hg5⟩
      obtain rfl : e = .returned (.agg #[.string xl.key, .string xl.value, .int .i64 xl.effect]) := he
      have S5 := Lib.hid (S4.out.turn hclt hc5 hg5)
      have hs5 := S5.out.grown.size
      have Hxt := Lib.hid hxt
      clear HK S4 hc5 hg5 hxt
      go_wp2_with (first | (at_builtin; refine wpList_append_anyE rfl (.tmp 13) (.tmp 16) 25 rfl w.heap.size 32 q i0 _ 3 40 Tryd.underlying25 hi hz0 hz1 hz2 rfl (by decide) _ m.length _ rfl (S5.out.alloc hclt _).row w5.heap.size 1 1 [.string xl.key, .string xl.value, .int .i64 xl.effect] rfl (rdk_lay w5 32 [.string xl.key, .string xl.value, .int .i64 xl.effect] rfl) (by decide) (Taint.cells_one xl) (by unfold maxLen; omega) (by omega) (by simp; omega) ?_) | fail)
      intro v7 w7 e7 hown7 hg7 hat7
      have S7 := Lib.hid (S5.out.more (x := xl) hclt hown7 hg7)
      have HT7 := Lib.hid (tinyL_snocTaint htm.out Hxt.out)
      have hm7 : (m ++ [xl]).length ≤ 4 + (j + 1) := by simp; omega
      clear hown7 hg7 hat7 S5
      go_wp2_with fail
      go_roundw
      case rel => exact ⟨j + 1, m ++ [xl], e7, by omega, by go_num, hm7, HT7.out, S7.out⟩
      case measure => simp [intOf]; omega
    · have hm8 : m.length ≤ 8 := by omega
      have HO := Lib.hid (once_any c A len cap z 20 w4 hc4 (by decide) (by decide))
      clear hc4
      go_wp2_with fail
      refine HO.out.mono ?_
      rintro e w5 ⟨b, rfl, hc5, hg5⟩
      have S5 := Lib.hid (S4.out.turn hclt hc5 hg5)
      clear HO S4 hc5 hg5
      cases b with
      | false =>
        have HR := Lib.hid (S5.out.got (row := Taint.row) (Wf := Taint.Wf) (P := (fun l => l.length ≤ 41 ∧ ∀ x ∈ l, TinyT 5 x)) Taint.row_length (fun x h => Taint.owned h) ⟨by omega, htm.out⟩ (tinyL_wfTaint htm.out))
        go_wp2_with fail
        go_ret
        exact HR.out
      | true =>
        go_wp2_with fail
        go_loopw [3] (fun vo wr => ∃ (m2 : List Taint) (q2 : TypeId), m2.length ≤ 41 ∧ lenOfTaint vo = m2.length ∧ Hid (∀ x ∈ m2, TinyT 5 x) ∧ StF 3 Taint.cells w c A len cap z q2 vo m2 wr) (fun vo _ => 41 - lenOfTaint vo)
        case atStart => exact ⟨m, q, by omega, rfl, htm.out, S5.out⟩
        case round =>
          clear S5 htm hm8 hml
          obtain ⟨m2, q, hm2, hlo, htm, hst⟩ := hrel
          obtain ⟨Am2, cm2, rfl⟩ := own_is_slice hst.row
          have S6 := Lib.hid hst
          have HB := Lib.hid (below_any c A len cap z 2 wr hst.cur (by decide) (by decide))
          clear hst hlo
          go_wp2_with fail
          refine HB.out.mono ?_
          rintro e w7 ⟨x2, hx2, rfl, hc7, hg7⟩
          have S7 := Lib.hid (S6.out.turn hclt hc7 hg7)
          have hs7 := S7.out.grown.size
          have hwx : IntKind.i64.wrap (40 + x2) = 40 + x2 := IntWalk.i64_in _ (by omega)
          clear HB S6 hc7 hg7
          by_cases hlt2 : (m2.length : Int) < 40 + x2
          · go_wp2_with (first | (at_builtin; refine wpList_append_anyE rfl (.tmp 26) (.tmp 28) 25 rfl w.heap.size 32 q i0 _ 3 40 Tryd.underlying25 hi hz0 hz1 hz2 rfl (by decide) _ m2.length _ rfl (S7.out.alloc hclt _).row w7.heap.size 1 1 [.string ⟨#[97]⟩, .string ⟨#[]⟩, .int .i64 1] rfl (rdk_lay w7 32 [.string ⟨#[97]⟩, .string ⟨#[]⟩, .int .i64 1] rfl) (by decide) (by intro u hu; simp at hu; rcases hu with rfl | rfl | rfl <;> rfl) (by unfold maxLen; omega) (by omega) (by simp; omega) ?_) | fail)
            intro v9 w9 e9 hown9 hg9 hat9
            have S9 := Lib.hid (S7.out.more (x := (⟨⟨#[97]⟩, ⟨#[]⟩, 1⟩ : Taint)) hclt hown9 hg9)
            have HT9 := Lib.hid (tinyL_snocTaint (x := (⟨⟨#[97]⟩, ⟨#[]⟩, 1⟩ : Taint)) htm.out ⟨by decide, by decide, by decide, by decide⟩)
            have hm9 : (m2 ++ [(⟨⟨#[97]⟩, ⟨#[]⟩, 1⟩ : Taint)]).length ≤ 41 := by simp; omega
            obtain ⟨A9, c9, rfl⟩ := own_is_slice hown9
            clear hown9 hg9 hat9 S7
            go_wp2_with fail
            go_roundw
            case rel => exact ⟨m2 ++ [(⟨⟨#[97]⟩, ⟨#[]⟩, 1⟩ : Taint)], e9, hm9, by simp [lenOfTaint], HT9.out, S9.out⟩
            case measure => simp [lenOfTaint]; omega
          · have HR := Lib.hid (S7.out.got (row := Taint.row) (Wf := Taint.Wf) (P := (fun l => l.length ≤ 41 ∧ ∀ x ∈ l, TinyT 5 x)) Taint.row_length (fun x h => Taint.owned h) ⟨hm2, htm.out⟩ (tinyL_wfTaint htm.out))
            go_wp2_with fail
            go_ret
            exact HR.out
end Go.Proofs.YtpadpiibiocabaaDoor.draw
