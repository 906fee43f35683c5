/- impl.stringOk, impl.keysOk. -/
import Derived.Test.YtkgogbeknehphaaDoorRnsI
import Derived.Test.YtkgogbeknehphaaDoorTrShapeS
import Derived.Test.YtkgogbeknehphaaDoorSameB
import Derived.Laws.Cover1
namespace Go.Proofs.YtkgogbeknehphaaDoor.tree
open Go.ChangeShapes Go.WideShapes Go.ChangeAt Go.RowKit
open rune (Tabs)
set_option linter.unusedVariables false

theorem impl_word (s : ByteArray) (w : World) (hs : s.size ≤ maxLen) (hT : Tabs w) :
    Calls Tryd.prog 51 #[.string s] w fun e w' => e = .returned (.bool (dec (TextOk s))) ∧ Below w.heap.size w w' := by
  unfold maxLen at hs
  by_cases h : s.size ≤ 400
  · have HU := Lib.hid (rune.impl_utf s w (by omega) hT)
    have e : dec (TextOk s) = rune.okS s := by
      unfold rune.okS
      cases hb : (rune.runesF s).isSome with
      | true => exact dec_yes ⟨h, hb⟩
      | false => exact dec_no (fun h2 => by rw [h2.2] at hb; cases hb)
    rw [e]
    generalize rune.okS s = b at HU
    clear e hT
    go_enter Tryd.func51, Tryd.ntmps51
    go_wp2_with fail
    refine HU.out.mono ?_
    rintro e w1 ⟨rfl, hb⟩
    clear HU
    go_wp2_with fail
    go_ret
    exact ⟨rfl, hb⟩
  · rw [dec_no (fun h2 => h h2.1)]
    clear hT
    go_enter Tryd.func51, Tryd.ntmps51
    go_wp2_with fail
    go_ret
    exact ⟨rfl, Below.refl _ _⟩

set_option maxRecDepth 100000 in
set_option maxHeartbeats 4000000 in
theorem impl_keys (A : Option Addr) (c : Nat) (ks : List ByteArray) (w : World) (hc : ks.length ≤ c) (hm : c ≤ maxLen) (hr : Rd w A ks.length (scells ks)) (hks : ∀ x ∈ ks, x.size ≤ maxLen) (hT : Tabs w) :
    Calls Tryd.prog 52 #[.slice A ks.length c] w fun e w' => e = .returned (.bool (dec (KeysOk ks))) ∧ Below w.heap.size w w' := by
  unfold maxLen at hm
  have Hr := Lib.hid hr
  have Hks := Lib.hid hks
  have HT := Lib.hid hT
  obtain ⟨R, hR⟩ : ∃ R, dec (KeysOk ks) = R := ⟨_, rfl⟩
  rw [hR]
  have HX := Lib.hid (fun (h : ¬ KeysOk ks) => show R = false from hR.symm.trans (dec_no h))
  have HY := Lib.hid (fun (h : KeysOk ks) => show R = true from hR.symm.trans (dec_yes h))
  clear hr hks hT hR
  go_enter Tryd.func52, Tryd.ntmps52
  go_wp2_with fail
  go_loopw [7] (fun i wr => ∃ (j : Nat), j ≤ ks.length ∧ i = .int .i64 j ∧ Hid (∀ m, m < j → KeyOk ks m) ∧ Below w.heap.size w wr) (fun i _ => ks.length - (intOf i).toNat)
  case atStart => exact ⟨0, Nat.zero_le _, rfl, fun m hm => by omega, Below.refl _ _⟩
  case round =>
    obtain ⟨j, hj, rfl, hm, hbel⟩ := hrel
    by_cases hlt : j < ks.length
    · obtain ⟨g, o, rfl, hg, hc0⟩ := (Hr.out.below hbel).2 (by omega)
      have hcell := hc0 j hlt _ (scells_get ks j hlt)
      have HW := Lib.hid (impl_word ks[j] wr (Hks.out _ (List.getElem_mem hlt)) (HT.out.below hbel))
      have Hbel := Lib.hid hbel
      by_cases ht : TextOk ks[j]
      · rw [dec_yes ht] at HW
        by_cases h0 : j = 0
        · have Hm := Lib.hid (show ∀ m, m < j + 1 → KeyOk ks m from fun m hmj => by
            by_cases e : m = j
            · subst e; exact key_first h0 hlt ht
            · exact hm.out m (by omega))
          have hz : ¬ (0 : Int) < (j : Int) := by omega
          clear hc0 hbel hm ht hg h0
          generalize ks[j] = x at hcell HW
          go_wp2_with fail
          refine HW.out.mono ?_
          rintro e w1 ⟨rfl, hb⟩
          have Hb := Lib.hid (below_link Hbel.out hb Hbel.out.size)
          clear hb HW hcell
          go_wp2_with fail
          go_roundw
          case rel => exact ⟨j + 1, by omega, by go_num, Hm.out, Hb.out⟩
          case measure => simp [intOf]; omega
        · obtain ⟨m, hmj⟩ : ∃ m, m + 1 = j := ⟨j - 1, by omega⟩
          have hmlt : m < ks.length := by omega
          have hcm := hc0 m hmlt _ (scells_get ks m hmlt)
          have hcm1 : ∀ w', Below wr.heap.size wr w' → w'.cell? ⟨g, o + m, none⟩ = some (.string ks[m]) := fun w' hb => (World.cell?_of_block (hb.block g hg)).trans hcm
          by_cases hl : less ks[m] ks[j] = true
          · have Hm := Lib.hid (show ∀ q, q < j + 1 → KeyOk ks q from fun q hq => by
              by_cases e : q = j
              · subst e; exact key_next hmj hlt ht hl
              · exact hm.out q (by omega))
            unfold less at hl
            clear hc0 hbel hm ht hg h0
            generalize ks[j] = x at hcell HW hl
            generalize ks[m] = y at hcm1 hl
            have hz : (0 : Int) < (j : Int) := by omega
            have e1 : (j : Int) - 1 = (m : Int) := by omega
            have Hcm1 := Lib.hid hcm1
            clear hcm1 hcm
            go_wp2_with fail
            refine HW.out.mono ?_
            rintro e w1 ⟨rfl, hb⟩
            have hcy := Hcm1.out w1 hb
            have Hb := Lib.hid (below_link Hbel.out hb Hbel.out.size)
            clear hb HW hcell
            go_wp2_with fail
            go_roundw
            case rel => exact ⟨j + 1, by omega, by go_num, Hm.out, Hb.out⟩
            case measure => simp [intOf]; omega
          · have Hend := Lib.hid (HX.out (fun h => hl (key_less hmj hlt (h j hlt))))
            replace hl : less ks[m] ks[j] = false := by simpa using hl
            unfold less at hl
            clear hc0 hbel hm ht hg h0
            generalize ks[j] = x at hcell HW hl
            generalize ks[m] = y at hcm1 hl
            have hz : (0 : Int) < (j : Int) := by omega
            have e1 : (j : Int) - 1 = (m : Int) := by omega
            have Hcm1 := Lib.hid hcm1
            clear hcm1 hcm
            go_wp2_with fail
            refine HW.out.mono ?_
            rintro e w1 ⟨rfl, hb⟩
            have hcy := Hcm1.out w1 hb
            have Hb := Lib.hid (below_link Hbel.out hb Hbel.out.size)
            clear hb HW hcell
            go_wp2_with fail
            go_ret
            exact ⟨by rw [Hend.out]; rfl, Hb.out⟩
      · rw [dec_no ht] at HW
        have Hend := Lib.hid (HX.out (fun h => ht (key_text hlt (h j hlt))))
        clear hc0 hbel hm ht hg
        generalize ks[j] = x at hcell HW
        go_wp2_with fail
        refine HW.out.mono ?_
        rintro e w1 ⟨rfl, hb⟩
        have Hb := Lib.hid (below_link Hbel.out hb Hbel.out.size)
        clear hb HW hcell
        go_wp2_with fail
        go_ret
        exact ⟨by rw [Hend.out]; rfl, Hb.out⟩
    · obtain rfl : j = ks.length := by omega
      have Hend := Lib.hid (HY.out (fun i hi => hm.out i hi))
      clear hm
      go_wp2_with fail
      go_ret
      exact ⟨by rw [Hend.out]; rfl, hbel⟩
end Go.Proofs.YtkgogbeknehphaaDoor.tree
