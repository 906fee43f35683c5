/- spec.RunesText. -/
import Derived.Test.YtlnfbpdicjcpgaaDoorRnS
import Derived.Test.YtlnfbpdicjcpgaaDoorIter
import Derived.Lib.AppendStr
namespace Go.Proofs.YtlnfbpdicjcpgaaDoor.rune
open Go.ChangeShapes Go.WideShapes Go.ChangeAt Go.RowKit
set_option linter.unusedVariables false

theorem spec_join (A : Option Addr) (n c : Nat) (l : List Int) (w : World) (hn : n ≤ 1099511627776) (hln : l.length = n) (h : Rd w A n (icells l)) (hwf : ∀ x ∈ l, (Lit.int .i64 x).wf = true) :
    Calls Tryd.prog 82 #[.slice A n c] w fun e w' => e = .returned (.string (joinF l)) ∧ Below w.heap.size w w' := by
  obtain ⟨i0, hi, hz0, hz1, hz2⟩ := info_parts binfo.Trydinfo
  have H := Lib.hid h
  have Hl := Lib.hid hln
  have Hw := Lib.hid hwf
  have hown1 : (w.alloc (.cells #[] 5)).ownsRow w.heap.size 5 1 (.slice (some ⟨w.heap.size, 0, none⟩) 0 0) 0 (bcells []) := World.ownsRow_lit w #[] 0 (Nat.le_refl _) (by simp [maxLen]) rfl
  have Hown := Lib.hid hown1
  have Hb := Lib.hid ((Below.refl w.heap.size w).alloc (Nat.le_refl _) (.cells #[] 5))
  clear h hln hown1 hwf
  go_enter Tryd.func82, Tryd.ntmps82
  go_wp2_with fail
  go_loopw [3, 4] (fun v i wr => ∃ (k m : Nat) (bs : List UInt8), k ≤ n ∧ i = .int .i64 k ∧ m ≤ 4 * k ∧ bs.length = m ∧ Hid (bs = joinL (l.take k)) ∧ wr.ownsRow w.heap.size 5 1 v m (bcells bs) ∧ Below w.heap.size w wr) (fun _ i _ => n - (intOf i).toNat)
  case atStart => exact ⟨0, 0, [], Nat.zero_le _, rfl, by omega, rfl, rfl, Hown.out, Hb.out⟩
  case round =>
    clear Hown Hb
    obtain ⟨k, m, bs, hk, rfl, hm, hlen, hbs, hown, hbel⟩ := hrel
    by_cases hlt : k < n
    · have hkl : k < l.length := by have := Hl.out; omega
      obtain ⟨g, o, rfl, hg, hc0⟩ := H.out.2 (by omega)
      have hc : wr.cell? ⟨g, o + k, none⟩ = some (.int .i64 (l.getD k 0)) := (hbel.cell (p := ⟨g, o + k, none⟩) hg).trans (hc0 k hlt _ (icells_get l k hkl))
      have Hj : Hid (bs ++ (textF (l.getD k 0)).data.toList = joinL (l.take (k + 1))) := by
        unfold Hid
        rw [List.take_succ_eq_append_getElem hkl, joinL_snoc, ← hbs.out, List.getD_eq_getElem?_getD, List.getElem?_eq_getElem hkl]
        rfl
      have hx := i64_bd (n := l.getD k 0) (by rw [List.getD_eq_getElem?_getD, List.getElem?_eq_getElem hkl]; exact Hw.out _ (List.getElem_mem hkl))
      have HT := Lib.hid (fun w => spec_text (l.getD k 0) w hx.1 hx.2)
      have h4 := text_le (l.getD k 0)
      clear hc0 hkl hbs
      generalize l.getD k 0 = x at hc HT Hj h4
      clear hx
      go_wp2_with fail
      refine (HT.out _).mono ?_
      rintro e w2 ⟨rfl, hb2⟩
      clear HT
      generalize textF x = t at Hj h4
      have Hlen := Lib.hid hlen
      have hown2 := own_below hown hb2
      have hbel2 := hbel.trans (hb2.mono hbel.size)
      clear hown hbel hb2 hc
      go_wp2_with (first | (at_builtin; refine Lib.wpList_append_own_string _ rfl (.tmp 12) (.tmp 17) 36 9 rfl w.heap.size 5 i0 Tryd.underlying36 Tryd.underlying9 hi hz0 hz1 hz2 _ m _ rfl hown2 t rfl (by unfold maxLen; omega) (by omega) (by have := hbel2.size; omega) ?_) | fail)
      intro v3 w3 hown3 hg3 _
      have hbel3 : Below w.heap.size w w3 := hbel2.grown hg3 (by have := hbel2.size; omega) (fun b hb => (hown2.lt b hb).1)
      rw [show Lib.strCells t = bcells t.data.toList from rfl, ← bcells_append] at hown3
      clear hown2 hbel2 hg3
      go_wp2_with fail
      go_roundw
      case rel => exact ⟨k + 1, m + t.size, bs ++ t.data.toList, by omega, by go_num, by omega, by rw [List.length_append, Hlen.out]; simp, Hj.out, hown3, hbel3⟩
      case measure => simp [intOf]; omega
    · obtain rfl : k = n := by omega
      have hconv := binfo.conv hlen hown
      have Hr : Hid (⟨bs.toArray⟩ = joinF l) := by
        unfold Hid joinF
        rw [hbs.out, List.take_of_length_le (by have := Hl.out; omega)]
      have Hbel := Lib.hid hbel
      clear hown hbel hbs
      go_wp2_with fail
      go_ret
      exact ⟨by rw [← Hr.out]; rfl, Hbel.out⟩
end Go.Proofs.YtlnfbpdicjcpgaaDoor.rune
