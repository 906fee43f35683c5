/- impl.Hex: the lowercase hexadecimal digits of a text of at most 20000 bytes, else the empty string and false. -/
import Derived.Test.YtmknkpoihnpnkaaDoorHexM
namespace Go.Proofs.YtmknkpoihnpnkaaDoor.hex
open Go.ChangeShapes Go.WideShapes Go.ChangeAt Go.RowKit
set_option linter.unusedVariables false

theorem and15_all : ∀ n : Fin 256, bits BinOp.and IntKind.u8 (n.val : Int) 15 = (n.val : Int) % 16 := by decide +kernel
theorem and15 (n : Nat) (h : n < 256) : bits BinOp.and IntKind.u8 (n : Int) 15 = (n : Int) % 16 := and15_all ⟨n, h⟩

def hexB : ByteArray := ⟨#[48, 49, 50, 51, 52, 53, 54, 55, 56, 57, 97, 98, 99, 100, 101, 102]⟩
theorem hexB_all : ∀ n : Fin 16, hexB.data[n.val]?.map (·.toNat) = some (fig n.val).toNat := by decide +kernel
theorem hexB_get (n : Nat) (hn : n < 16) (z : Int) (hz : z.toNat = n) : ∀ h, ((⟨#[48, 49, 50, 51, 52, 53, 54, 55, 56, 57, 97, 98, 99, 100, 101, 102]⟩ : ByteArray)[z.toNat]'h).toNat = (fig n).toNat := by
  intro h
  have e := hexB_all ⟨n, hn⟩
  subst hz
  have h2 : z.toNat < hexB.data.size := h
  rw [Array.getElem?_eq_getElem h2] at e
  simp only [Option.map_some, Option.some.injEq] at e
  exact e

theorem impl_big (s : ByteArray) (w : World) (hs : s.size ≤ maxLen) (hb : 20000 < s.size) :
    Calls Tryd.prog 21 #[.string s] w fun e w' => e = .returned (.tuple #[.string ⟨#[]⟩, .bool false]) ∧ w = w' := by
  unfold maxLen at hs
  go_enter Tryd.func21, Tryd.ntmps21
  go_wp2
  go_ret2
  exact ⟨rfl, rfl⟩

theorem impl_small (s : ByteArray) (w : World) (hb : s.size ≤ 20000) :
    Calls Tryd.prog 21 #[.string s] w fun e w' => e = .returned (.tuple #[.string ⟨(hexL s.data.toList).toArray⟩, .bool true]) ∧ Below w.heap.size w w' := by
  obtain ⟨i0, hi, hz0, hz1, hz2⟩ := info_parts Trydinfo
  go_enter Tryd.func21, Tryd.ntmps21
  go_wp2_with (first | (at_make; refine wpList_make_own _ rfl _ _ 22 rfl w.heap.size 5 i0 (.int .u8 0) 1 Tryd.underlying22 hi hz0 hz1 _ _ _ (2 * s.size) rfl rfl (by omega) ?c1 ?c2 ?c3 ?_) | fail)
  case c1 => rw [hz2]; omega
  case c2 => unfold maxLen; omega
  case c3 => exact Nat.le_refl _
  intro w1 hown1 hg1
  have hb1 : Below w.heap.size w w1 := (Below.refl _ _).grown hg1 (Nat.le_refl _) (fun k hk => by cases hk)
  clear hg1
  go_wp2_with fail
  go_loopw [4, 5] (fun v i wr => ∃ k : Nat, k ≤ s.size ∧ i = .int .i64 k ∧ wr.ownsRow w.heap.size 5 1 v (2 * k) (bcells (hexL (s.data.toList.take k))) ∧ Below w.heap.size w wr) (fun _ i _ => s.size - (intOf i).toNat)
  case atStart => exact ⟨0, Nat.zero_le _, rfl, hown1, hb1⟩
  case round =>
    clear hown1 hb1
    obtain ⟨k, hk, rfl, hown, hbel⟩ := hrel
    by_cases hlt : k < s.size
    · have hby : s[k].toNat < 256 := s[k].toNat_lt
      have hx1 : 0 ≤ (s[k].toNat : Int) / 16 ∧ (s[k].toNat : Int) / 16 < 16 := by omega
      have hx2 : 0 ≤ (s[k].toNat : Int) % 16 ∧ (s[k].toNat : Int) % 16 < 16 := by omega
      have ha := and15 s[k].toNat hby
      have hd1 := hexB_get (s[k].toNat / 16) (by omega) ((s[k].toNat : Int) / 16) (by omega)
      have hd2 := hexB_get (s[k].toNat % 16) (by omega) ((s[k].toNat : Int) % 16) (by omega)
      go_wp2_with fail
      go_region_law (refine step_append_own rfl (.tmp 19) (.tmp 30) 22 rfl w.heap.size 5 i0 (.int .u8 0) 1 1 Tryd.underlying22 hi hz0 hz1 hz2 rfl (by decide) _ (2 * k) _ rfl (hown.alloc _) ⟨wr.heap.size, 0, none⟩ 2 2 (bcells [fig (s[k].toNat / 16), fig (s[k].toNat % 16)]) rfl rfl (by exact lit_cells _ _ _) (bcells_one _) (by unfold maxLen; omega) (by omega) (by have := hbel.size; simp; omega) ?_; intro v2 w2 hown2 hg2)
      all_goals
        have hbel2 : Below w.heap.size w w2 := ((hbel.alloc hbel.size _).drew).grown hg2 (by have := hbel.size; simp; omega) (fun b hb => (hown.lt b hb).1)
        have hstep : hexL (s.data.toList.take (k + 1)) = hexL (s.data.toList.take k) ++ [fig (s[k].toNat / 16), fig (s[k].toNat % 16)] := by
          rw [take_snoc s k hlt]; simp [hexL]
        have Hs := Lib.hid hstep
        clear hown hbel hstep hd1 hd2 ha hg2
        go_wp2_with fail
        go_roundw
        case rel => exact ⟨k + 1, by omega, by go_num, by rw [Hs.out, bcells_append]; exact hown2, hbel2⟩
        case measure => simp [intOf]; omega
    · have hk' : k = s.size := by omega
      have hconv := run_convert_own (P := Tryd.prog) wr 22 5 9 Tryd.underlying22 Tryd.underlying5 Tryd.underlying9 w.heap.size u4 (hexL s.data.toList) (by
        have h2 : s.data.toList.take k = s.data.toList := List.take_of_length_le (by simp [hk'])
        rw [h2] at hown
        have hl : (hexL s.data.toList).length = 2 * k := by rw [hexL_length, hk']; rfl
        show wr.ownsRow _ _ _ _ (hexL s.data.toList).length _
        rw [hl]; exact hown)
      clear hk' hown
      go_wp2_with fail
      go_ret2
      exact ⟨rfl, hbel⟩

end Go.Proofs.YtmknkpoihnpnkaaDoor.hex
