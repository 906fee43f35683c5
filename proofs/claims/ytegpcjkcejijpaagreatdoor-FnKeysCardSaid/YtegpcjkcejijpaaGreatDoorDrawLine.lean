/- Drawn lines: l11Word, l11Line, DrawPlainOk. -/
import Derived.Test.YtegpcjkcejijpaaGreatDoorGWd
import Derived.Test.YtegpcjkcejijpaaGreatDoorGDraw
import Derived.Test.YtegpcjkcejijpaaGreatDoorDrawLongA
namespace Go.Proofs.YtegpcjkcejijpaaGreatDoor.draw
open Go.ChangeShapes Go.WideShapes Go.ChangeAt Go.RowKit
set_option linter.unusedVariables false

def lineW : List ByteArray := [⟨#[97]⟩, ⟨#[97, 58, 32, 98]⟩, ⟨#[45, 32, 97]⟩, ⟨#[45]⟩, ⟨#[34, 97, 58, 32, 98, 34, 58, 32, 99]⟩, ⟨#[34, 97, 32, 35, 34, 32, 35, 32, 98]⟩, ⟨#[97, 35, 98]⟩, ⟨#[97, 32, 35, 98]⟩, ⟨#[35, 32, 97, 108, 108]⟩, ⟨#[32, 32, 120, 58, 32, 49]⟩, ⟨#[107, 58]⟩, ⟨#[107, 58, 32]⟩, ⟨#[34, 107, 34, 58]⟩, ⟨#[34, 107, 34, 32, 58, 32, 49]⟩, ⟨#[45, 32, 45, 32, 49]⟩, ⟨#[45, 32, 32, 97, 58, 32, 98]⟩, ⟨#[110, 117, 108, 108]⟩, ⟨#[126]⟩, ⟨#[49, 50]⟩, ⟨#[45, 53]⟩, ⟨#[53, 48, 48, 109]⟩, ⟨#[97, 32, 34, 98, 32, 35, 99]⟩, ⟨#[97, 92, 98]⟩, ⟨#[34, 97, 92, 34, 32, 35, 32, 98, 34]⟩, ⟨#[91, 93]⟩, ⟨#[107, 58, 32, 91, 93]⟩, ⟨#[39, 113, 39]⟩, ⟨#[97, 58, 98, 58, 32, 99]⟩, ⟨#[58, 32, 120]⟩, ⟨#[195, 169, 58, 32, 195, 188]⟩]
theorem lineW_size : ∀ x ∈ lineW, x.size ≤ 28 := by decide
set_option maxRecDepth 100000 in
theorem lword_any (c : Nat) (A : Option Addr) (len cap : Nat) (z : Nat → Int) (w : World) (hc : Cur w c A len cap z) :
    Calls Tryz.prog 82 #[.pointer (some ⟨c, 0, none⟩)] w (GotS (fun x => x.size ≤ 28) c A len cap z w) := by
  have HP := Lib.hid (pickS_any c A len cap z w.heap.size 30 (.slice (some ⟨w.heap.size, 0, none⟩) 30 30) lineW _ (cur_alloc hc (.cells (scells lineW).toArray 9)) (by decide) (by decide) rfl hc.lt (World.ownsRow_lit w (scells lineW).toArray 30 (Nat.le_refl _) (by simp [maxLen]) rfl))
  clear hc
  go_enter Tryz.func82, Tryz.ntmps82
  go_wp2_with fail
  refine HP.out.mono ?_
  rintro e w3 ⟨t, ht, rfl, hc3, hg3⟩
  have Ht3 := Lib.hid (lineW_size t ht)
  have Hg3 := Lib.hid (grown_trans (grown_alloc _ _ _) hg3)
  have Hc3 := Lib.hid hc3
  clear HP hg3 hc3 ht
  go_wp2_with fail
  go_ret
  exact ⟨t, Ht3.out, rfl, Hc3.out, Hg3.out⟩
set_option maxRecDepth 100000 in
theorem line_any (c : Nat) (A : Option Addr) (len cap : Nat) (z : Nat → Int) (w : World) (hc : Cur w c A len cap z) :
    Calls Tryz.prog 39 #[.pointer (some ⟨c, 0, none⟩)] w (GotS (fun x => x.size ≤ 40) c A len cap z w) := by
  have HW := Lib.hid (lword_any c A len cap z w hc)
  clear hc
  go_enter Tryz.func39, Tryz.ntmps39
  go_wp2_with fail
  refine HW.out.mono ?_
  rintro e w1 ⟨s, hs, rfl, hc1, hg1⟩
  have H6 := Lib.hid (below_any c A len cap z 6 w1 hc1 (by decide) (by decide))
  have Hg1 := Lib.hid hg1
  clear HW hc1 hg1
  go_wp2_with fail
  refine H6.out.mono ?_
  rintro e w2 ⟨x, hx, rfl, hc2, hg2⟩
  have Hg2 := Lib.hid (grown_trans Hg1.out hg2)
  clear H6 hg2 Hg1
  by_cases hx0 : x = 0
  · subst hx0
    have Hc2 := Lib.hid hc2
    clear hc2 hx
    have z1 : (⟨#[32, 32]⟩ ++ s : ByteArray).size = s.size + 2 := by rw [ByteArray.size_append]; show 2 + s.size = _; omega
    have z2 : (⟨#[32, 32]⟩ ++ s ++ ⟨#[32, 32]⟩ : ByteArray).size = s.size + 4 := by rw [ByteArray.size_append, z1]; rfl
    have h3 : ¬ 9223372036854775807 < 2 + s.size := by omega
    have h4 : ¬ 9223372036854775807 < (⟨#[32, 32]⟩ ++ s : ByteArray).size + 2 := by omega
    go_wp2_with fail
    go_ret
    exact ⟨_, show _ ≤ 40 by rw [z2]; omega, rfl, Hc2.out, Hg2.out⟩
  have e0 : (x == 0) = false := beq_eq_false_iff_ne.2 hx0
  by_cases hx1 : x = 1
  · subst hx1
    have Hc2 := Lib.hid hc2
    clear hc2 hx
    have z2 : (s ++ ⟨#[32, 35, 32, 115, 97, 105, 100]⟩ : ByteArray).size = s.size + 7 := by rw [ByteArray.size_append]; rfl
    have h4 : ¬ 9223372036854775807 < s.size + 7 := by omega
    go_wp2_with fail
    go_ret
    exact ⟨_, show _ ≤ 40 by rw [z2]; omega, rfl, Hc2.out, Hg2.out⟩
  have e1 : (x == 1) = false := beq_eq_false_iff_ne.2 hx1
  by_cases hx2 : x = 2
  · subst hx2
    have HS := Lib.hid (word_any c A len cap z w2 hc2)
    clear hc2 hx
    go_wp2_with fail
    refine HS.out.mono ?_
    rintro e w3 ⟨t, ht, rfl, hc3, hg3⟩
    have Hg3 := Lib.hid (grown_trans Hg2.out hg3)
    have Hc3 := Lib.hid hc3
    have Ht := Lib.hid (show t.size ≤ 40 from Nat.le_trans ht.1 (by decide))
    clear HS hg3 hc3 Hg2 ht
    go_wp2_with fail
    go_ret
    exact ⟨t, Ht.out, rfl, Hc3.out, Hg3.out⟩
  have e2 : (x == 2) = false := beq_eq_false_iff_ne.2 hx2
  have Hc2 := Lib.hid hc2
  clear hc2 hx
  go_wp2_with fail
  go_ret
  exact ⟨s, show s.size ≤ 40 by omega, rfl, Hc2.out, Hg2.out⟩
set_option maxRecDepth 100000 in
theorem plainOk_any (A : Option Addr) (len cap : Nat) (zs : List Int) (w : World) (hr : IsRow .u8 w A len cap zs) (hlen : len ≤ 1048576) :
    Calls Tryz.prog 11 #[.slice A len cap] w fun e w' => ∃ s : ByteArray, s.size ≤ 401 ∧ e = .returned (.string s) ∧ Below w.heap.size w w' := by
  have HN := Lib.hid (new_any A len cap zs w hr hlen)
  clear hr
  go_enter Tryz.func11, Tryz.ntmps11
  go_wp2_with fail
  refine HN.out.mono ?_
  clear HN
  rintro e w1 ⟨c, rfl, hcw, hc, hb1⟩
  generalize (fun j => zs.getD j 0) = z at hc
  have HO := Lib.hid (once_any c A len cap z 12 w1 hc (by decide) (by decide))
  clear hc
  go_wp2_with fail
  refine HO.out.mono ?_
  clear HO
  rintro e w2 ⟨b, rfl, hc2, hg2⟩
  have hb2 := hb1.grown hg2 hb1.size (fun b hb => by injection hb with hb; omega)
  clear hg2 hb1
  cases b with
  | false =>
    have HR := Lib.hid (line_any c A len cap z w2 hc2)
    clear hc2
    go_wp2_with fail
    refine HR.out.mono ?_
    rintro e w3 ⟨s, hs, rfl, hc3, hg3⟩
    have Hb := Lib.hid (hb2.grown hg3 hb2.size (fun b hb => by injection hb with hb; omega))
    clear hc3 hg3 hb2 HR
    go_wp2_with fail
    go_ret
    exact ⟨s, by omega, rfl, Hb.out⟩
  | true =>
    have H2 := Lib.hid (below_any c A len cap z 2 w2 hc2 (by decide) (by decide))
    clear hc2
    go_wp2_with fail
    refine H2.out.mono ?_
    rintro e w3 ⟨x, hx, rfl, hc3, hg3⟩
    have Hb := Lib.hid (hb2.grown hg3 hb2.size (fun b hb => by injection hb with hb; omega))
    clear hc3 hg3 hb2 H2
    obtain ⟨n, hn⟩ := Int.eq_ofNat_of_zero_le (show 0 ≤ 400 + x by omega)
    have hwm : IntKind.i64.wrap (400 + x) = (n : Int) := by rw [hn]; exact IntWalk.i64_in _ (by omega)
    have HL := Lib.hid (long97_any n w3 (by omega))
    have hn2 : n ≤ 401 := by omega
    clear hx hn
    go_wp2_with fail
    refine HL.out.mono ?_
    rintro e w4 ⟨t, ht, rfl, hb4⟩
    have Hb4 := Lib.hid (Hb.out.trans (hb4.mono Hb.out.size))
    clear HL hb4 Hb
    go_wp2_with fail
    go_ret
    exact ⟨t, by omega, rfl, Hb4.out⟩
end Go.Proofs.YtegpcjkcejijpaaGreatDoor.draw
