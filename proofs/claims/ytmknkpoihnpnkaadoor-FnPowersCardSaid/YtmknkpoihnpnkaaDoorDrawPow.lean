/- spec.DrawPowInt: a base and an exponent; spec.DrawIntText: an int. -/
import Derived.Test.YtmknkpoihnpnkaaDoorDrawNum
namespace Go.Proofs.YtmknkpoihnpnkaaDoor.draw
open Go.ChangeShapes Go.WideShapes Go.ChangeAt Go.RowKit
set_option linter.unusedVariables false

def BaseExp (w : World) (e : Ending) (w' : World) : Prop :=
  ∃ a b : Int, I64 a ∧ (-1 ≤ b ∧ b ≤ 101) ∧ e = .returned (.tuple #[.int .i64 a, .int .i64 b]) ∧ Below w.heap.size w w'

theorem pow_any (A : Option Addr) (len cap : Nat) (zs : List Int) (w : World) (hr : IsRow .u8 w A len cap zs) (hlen : len ≤ 1048576) :
    Calls Tryd.prog 9 #[.slice A len cap] w (BaseExp w) := by
  have HN := Lib.hid (new_any A len cap zs w hr hlen)
  clear hr
  go_enter Tryd.func9, Tryd.ntmps9
  go_wp2_with fail
  refine HN.out.mono ?_
  clear HN
  rintro e w1 ⟨c, rfl, hcw, hc, hb1⟩
  generalize (fun j => zs.getD j 0) = z at hc
  have HP := Lib.hid (pick_any c A len cap z w1.heap.size 9 9 [0, 1, 2, 3, 10, 1024, 3037000500, -1, 9223372036854775807] _ (cur_alloc hc _) (by decide) (by decide) rfl hc.lt (heap_alloc_new w1 _))
  have Hb1 := Lib.hid hb1
  clear hc hb1
  go_wp2_with fail
  refine HP.out.mono ?_
  clear HP
  rintro e w2 ⟨a, ha, rfl, hc2, hg2⟩
  have Ha : Hid (I64 a) := by
    unfold Hid I64
    simp at ha
    omega
  have Hb2 := Lib.hid ((Hb1.out.alloc Hb1.out.size _).grown hg2 (by have := Hb1.out.size; simp; omega) (fun b hb => by injection hb with hb; omega))
  have HQ := Lib.hid (pick_any c A len cap z w2.heap.size 12 12 [0, 1, 2, 3, 6, 18, 19, 62, 63, 100, 101, -1] _ (cur_alloc hc2 _) (by decide) (by decide) rfl hc2.lt (heap_alloc_new w2 _))
  clear hc2 hg2 Hb1 ha
  go_wp2_with fail
  refine HQ.out.mono ?_
  clear HQ
  rintro e w3 ⟨b, hb, rfl, hc3, hg3⟩
  have Hb : Hid (-1 ≤ b ∧ b ≤ 101) := by
    unfold Hid
    simp at hb
    omega
  have Hb3 := Lib.hid ((Hb2.out.alloc Hb2.out.size _).grown hg3 (by have := Hb2.out.size; simp; omega) (fun b hb => by injection hb with hb; omega))
  clear hc3 hg3 Hb2 hb
  go_wp2_with fail
  go_ret2
  exact ⟨a, b, Ha.out, Hb.out, rfl, Hb3.out⟩

def OneInt (w : World) (e : Ending) (w' : World) : Prop := ∃ a : Int, I64 a ∧ e = .returned (.int .i64 a) ∧ Below w.heap.size w w'
theorem text_any (A : Option Addr) (len cap : Nat) (zs : List Int) (w : World) (hr : IsRow .u8 w A len cap zs) (hlen : len ≤ 1048576) :
    Calls Tryd.prog 12 #[.slice A len cap] w (OneInt w) := by
  have HN := Lib.hid (new_any A len cap zs w hr hlen)
  clear hr
  go_enter Tryd.func12, Tryd.ntmps12
  go_wp2_with fail
  refine HN.out.mono ?_
  clear HN
  rintro e w1 ⟨c, rfl, hcw, hc, hb1⟩
  generalize (fun j => zs.getD j 0) = z at hc
  have HA := Lib.hid (num_any c A len cap z w1 hc)
  have Hb1 := Lib.hid hb1
  clear hc hb1
  go_wp2_with fail
  refine HA.out.mono ?_
  clear HA
  rintro e w2 ⟨a, ha, rfl, hc2, hg2⟩
  have Hb2 := Lib.hid (Hb1.out.grown hg2 Hb1.out.size (fun b hb => by injection hb with hb; omega))
  have Ha := Lib.hid ha
  clear hc2 hg2 ha
  go_wp2_with fail
  go_ret
  exact ⟨a, Ha.out, rfl, Hb2.out⟩
end Go.Proofs.YtmknkpoihnpnkaaDoor.draw
