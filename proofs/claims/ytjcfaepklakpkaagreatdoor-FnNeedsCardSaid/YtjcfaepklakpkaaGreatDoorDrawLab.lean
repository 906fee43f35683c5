/- Drawn labels: l14Key, l14Value. -/
import Derived.Test.YtjcfaepklakpkaaGreatDoorDrawPickS
namespace Go.Proofs.YtjcfaepklakpkaaGreatDoor.draw
open Go.ChangeShapes Go.WideShapes Go.ChangeAt Go.RowKit
set_option linter.unusedVariables false

def labKeyW : List ByteArray := [⟨#[122, 111, 110, 101]⟩, ⟨#[100, 105, 115, 107]⟩, ⟨#[97, 112, 112]⟩, ⟨#[116, 105, 101, 114]⟩, ⟨#[97, 46, 98, 47, 99]⟩, ⟨#[90, 111, 110, 101]⟩]
theorem labKeyW_size : ∀ x ∈ labKeyW, x.size ≤ 5 := by decide
set_option maxRecDepth 100000 in
theorem labKey_any (c : Nat) (A : Option Addr) (len cap : Nat) (z : Nat → Int) (w : World) (hc : Cur w c A len cap z) :
    Calls Tryz.prog 70 #[.pointer (some ⟨c, 0, none⟩)] w (GotS (fun x => x.size ≤ 5) c A len cap z w) := by
  have HP := Lib.hid (pickS_any c A len cap z w.heap.size 6 (.slice (some ⟨w.heap.size, 0, none⟩) 6 6) labKeyW _ (cur_alloc hc (.cells (scells labKeyW).toArray 9)) (by decide) (by decide) rfl hc.lt (World.ownsRow_lit w (scells labKeyW).toArray 6 (Nat.le_refl _) (by simp [maxLen]) rfl))
  clear hc
  go_enter Tryz.func70, Tryz.ntmps70
  go_wp2_with fail
  refine HP.out.mono ?_
  rintro e w3 ⟨t, ht, rfl, hc3, hg3⟩
  have Ht3 := Lib.hid (labKeyW_size t ht)
  have Hg3 := Lib.hid (grown_trans (grown_alloc _ _ _) hg3)
  have Hc3 := Lib.hid hc3
  clear HP hg3 hc3 ht
  go_wp2_with fail
  go_ret
  exact ⟨t, Ht3.out, rfl, Hc3.out, Hg3.out⟩
def labValW : List ByteArray := [⟨#[97]⟩, ⟨#[98]⟩, ⟨#[99]⟩, ⟨#[]⟩, ⟨#[115, 115, 100]⟩, ⟨#[118, 49, 46, 50]⟩]
theorem labValW_size : ∀ x ∈ labValW, x.size ≤ 4 := by decide
set_option maxRecDepth 100000 in
theorem labVal_any (c : Nat) (A : Option Addr) (len cap : Nat) (z : Nat → Int) (w : World) (hc : Cur w c A len cap z) :
    Calls Tryz.prog 71 #[.pointer (some ⟨c, 0, none⟩)] w (GotS (fun x => x.size ≤ 4) c A len cap z w) := by
  have HP := Lib.hid (pickS_any c A len cap z w.heap.size 6 (.slice (some ⟨w.heap.size, 0, none⟩) 6 6) labValW _ (cur_alloc hc (.cells (scells labValW).toArray 9)) (by decide) (by decide) rfl hc.lt (World.ownsRow_lit w (scells labValW).toArray 6 (Nat.le_refl _) (by simp [maxLen]) rfl))
  clear hc
  go_enter Tryz.func71, Tryz.ntmps71
  go_wp2_with fail
  refine HP.out.mono ?_
  rintro e w3 ⟨t, ht, rfl, hc3, hg3⟩
  have Ht3 := Lib.hid (labValW_size t ht)
  have Hg3 := Lib.hid (grown_trans (grown_alloc _ _ _) hg3)
  have Hc3 := Lib.hid hc3
  clear HP hg3 hc3 ht
  go_wp2_with fail
  go_ret
  exact ⟨t, Ht3.out, rfl, Hc3.out, Hg3.out⟩
end Go.Proofs.YtjcfaepklakpkaaGreatDoor.draw
