/- Merged: TrStrI TrNodI NodeM. -/
import Derived.Test.YtbfkkaafkinpmaaGreatDoorGRnI
import Derived.Test.YtbfkkaafkinpmaaGreatDoorTrShapeS
import Derived.Test.YtbfkkaafkinpmaaGreatDoorSameB
import Derived.Laws.Cover1
import Derived.Test.YtbfkkaafkinpmaaGreatDoorGTree
import Derived.Test.YtbfkkaafkinpmaaGreatDoorGFld
namespace Go.Proofs.YtbfkkaafkinpmaaGreatDoor.tree
open Go.ChangeShapes Go.WideShapes Go.ChangeAt Go.RowKit
open rune (Tabs)
set_option linter.unusedVariables false

theorem impl_word (s : ByteArray) (w : World) (hs : s.size ≤ maxLen) (hT : Tabs w) :
    Calls Tryz.prog 59 #[.string s] w fun e w' => e = .returned (.bool (dec (TextOk s))) ∧ Below w.heap.size w w' := by
  unfold maxLen at hs
  by_cases h : s.size ≤ 400
  · have HU := Lib.hid (rune.impl_utf s w (by omega) hT)
    have e : dec (TextOk s) = rune.okS s := by
      unfold rune.okS
      cases hb : (rune.runesF s).isSome with
      | true => exact dec_yes ⟨h, hb⟩
      | false => exact dec_no (fun h2 => by rw [h2.2] at hb; cases hb)
    rw [e]
    generalize rune.okS s = b at HU
    clear e hT
    go_enter Tryz.func59, Tryz.ntmps59
    go_wp2_with fail
    refine HU.out.mono ?_
    rintro e w1 ⟨rfl, hb⟩
    clear HU
    go_wp2_with fail
    go_ret
    exact ⟨rfl, hb⟩
  · rw [dec_no (fun h2 => h h2.1)]
    clear hT
    go_enter Tryz.func59, Tryz.ntmps59
    go_wp2_with fail
    go_ret
    exact ⟨rfl, Below.refl _ _⟩

set_option maxRecDepth 100000 in
set_option maxHeartbeats 4000000 in
theorem impl_keys (A : Option Addr) (c : Nat) (ks : List ByteArray) (w : World) (hc : ks.length ≤ c) (hm : c ≤ maxLen) (hr : Rd w A ks.length (scells ks)) (hks : ∀ x ∈ ks, x.size ≤ maxLen) (hT : Tabs w) :
    Calls Tryz.prog 60 #[.slice A ks.length c] w fun e w' => e = .returned (.bool (dec (KeysOk ks))) ∧ Below w.heap.size w w' := by
  unfold maxLen at hm
  have Hr := Lib.hid hr
  have Hks := Lib.hid hks
  have HT := Lib.hid hT
  obtain ⟨R, hR⟩ : ∃ R, dec (KeysOk ks) = R := ⟨_, rfl⟩
  rw [hR]
  have HX := Lib.hid (fun (h : ¬ KeysOk ks) => show R = false from hR.symm.trans (dec_no h))
  have HY := Lib.hid (fun (h : KeysOk ks) => show R = true from hR.symm.trans (dec_yes h))
  clear hr hks hT hR
  go_enter Tryz.func60, Tryz.ntmps60
  go_wp2_with fail
  go_loopw [7] (fun i wr => ∃ (j : Nat), j ≤ ks.length ∧ i = .int .i64 j ∧ Hid (∀ m, m < j → KeyOk ks m) ∧ Below w.heap.size w wr) (fun i _ => ks.length - (intOf i).toNat)
  case atStart => exact ⟨0, Nat.zero_le _, rfl, fun m hm => by omega, Below.refl _ _⟩
  case round =>
    obtain ⟨j, hj, rfl, hm, hbel⟩ := hrel
    by_cases hlt : j < ks.length
    · obtain ⟨g, o, rfl, hg, hc0⟩ := (Hr.out.below hbel).2 (by omega)
      have hcell := hc0 j hlt _ (scells_get ks j hlt)
      have HW := Lib.hid (impl_word ks[j] wr (Hks.out _ (List.getElem_mem hlt)) (HT.out.below hbel))
      have Hbel := Lib.hid hbel
      by_cases ht : TextOk ks[j]
      · rw [dec_yes ht] at HW
        by_cases h0 : j = 0
        · have Hm := Lib.hid (show ∀ m, m < j + 1 → KeyOk ks m from fun m hmj => by
            by_cases e : m = j
            · subst e; exact key_first h0 hlt ht
            · exact hm.out m (by omega))
          have hz : ¬ (0 : Int) < (j : Int) := by omega
          clear hc0 hbel hm ht hg h0
          generalize ks[j] = x at hcell HW
          go_wp2_with fail
          refine HW.out.mono ?_
          rintro e w1 ⟨rfl, hb⟩
          have Hb := Lib.hid (below_link Hbel.out hb Hbel.out.size)
          clear hb HW hcell
          go_wp2_with fail
          go_roundw
          case rel => exact ⟨j + 1, by omega, by go_num, Hm.out, Hb.out⟩
          case measure => simp [intOf]; omega
        · obtain ⟨m, hmj⟩ : ∃ m, m + 1 = j := ⟨j - 1, by omega⟩
          have hmlt : m < ks.length := by omega
          have hcm := hc0 m hmlt _ (scells_get ks m hmlt)
          have hcm1 : ∀ w', Below wr.heap.size wr w' → w'.cell? ⟨g, o + m, none⟩ = some (.string ks[m]) := fun w' hb => (World.cell?_of_block (hb.block g hg)).trans hcm
          by_cases hl : less ks[m] ks[j] = true
          · have Hm := Lib.hid (show ∀ q, q < j + 1 → KeyOk ks q from fun q hq => by
              by_cases e : q = j
              · subst e; exact key_next hmj hlt ht hl
              · exact hm.out q (by omega))
            unfold less at hl
            clear hc0 hbel hm ht hg h0
            generalize ks[j] = x at hcell HW hl
            generalize ks[m] = y at hcm1 hl
            have hz : (0 : Int) < (j : Int) := by omega
            have e1 : (j : Int) - 1 = (m : Int) := by omega
            have Hcm1 := Lib.hid hcm1
            clear hcm1 hcm
            go_wp2_with fail
            refine HW.out.mono ?_
            rintro e w1 ⟨rfl, hb⟩
            have hcy := Hcm1.out w1 hb
            have Hb := Lib.hid (below_link Hbel.out hb Hbel.out.size)
            clear hb HW hcell
            go_wp2_with fail
            go_roundw
            case rel => exact ⟨j + 1, by omega, by go_num, Hm.out, Hb.out⟩
            case measure => simp [intOf]; omega
          · have Hend := Lib.hid (HX.out (fun h => hl (key_less hmj hlt (h j hlt))))
            replace hl : less ks[m] ks[j] = false := by simpa using hl
            unfold less at hl
            clear hc0 hbel hm ht hg h0
            generalize ks[j] = x at hcell HW hl
            generalize ks[m] = y at hcm1 hl
            have hz : (0 : Int) < (j : Int) := by omega
            have e1 : (j : Int) - 1 = (m : Int) := by omega
            have Hcm1 := Lib.hid hcm1
            clear hcm1 hcm
            go_wp2_with fail
            refine HW.out.mono ?_
            rintro e w1 ⟨rfl, hb⟩
            have hcy := Hcm1.out w1 hb
            have Hb := Lib.hid (below_link Hbel.out hb Hbel.out.size)
            clear hb HW hcell
            go_wp2_with fail
            go_ret
            exact ⟨by rw [Hend.out]; rfl, Hb.out⟩
      · rw [dec_no ht] at HW
        have Hend := Lib.hid (HX.out (fun h => ht (key_text hlt (h j hlt))))
        clear hc0 hbel hm ht hg
        generalize ks[j] = x at hcell HW
        go_wp2_with fail
        refine HW.out.mono ?_
        rintro e w1 ⟨rfl, hb⟩
        have Hb := Lib.hid (below_link Hbel.out hb Hbel.out.size)
        clear hb HW hcell
        go_wp2_with fail
        go_ret
        exact ⟨by rw [Hend.out]; rfl, Hb.out⟩
    · obtain rfl : j = ks.length := by omega
      have Hend := Lib.hid (HY.out (fun i hi => hm.out i hi))
      clear hm
      go_wp2_with fail
      go_ret
      exact ⟨by rw [Hend.out]; rfl, hbel⟩
end Go.Proofs.YtbfkkaafkinpmaaGreatDoor.tree
namespace Go.Proofs.YtbfkkaafkinpmaaGreatDoor.tree
open Go.ChangeShapes Go.WideShapes Go.ChangeAt Go.RowKit
set_option linter.unusedVariables false

theorem tree_nullNode  (w : World) :
    Calls Tryz.prog 144 #[.agg #[]] w fun e w' => e = .returned (.agg #[.int .i64 1, .bool false, .int .i64 0, .string ⟨#[]⟩, .slice none 0 0, .slice none 0 0]) ∧ Below w.heap.size w w' := by
  go_enter Tryz.func144, Tryz.ntmps144
  go_wp2_with fail
  refine bodyPost_ret (v := .agg #[.int .i64 1, .bool false, .int .i64 0, .string ⟨#[]⟩, .slice none 0 0, .slice none 0 0]) ?_ rfl ⟨rfl, ((Below.refl _ _).alloc (Nat.le_refl _) _).alloc (by simp) _⟩
  exact ret_tree rfl rfl rfl (by have h := heap_alloc_new (w.alloc (.cells #[] 83)) (.cells #[.int .i64 1, .bool false, .int .i64 0, .string ⟨#[]⟩, .slice none 0 0, .slice none 0 0] 30); rw [World.size_alloc] at h; exact h)
theorem tree_flagNode (fl : Bool) (w : World) :
    Calls Tryz.prog 145 #[.agg #[.bool fl]] w fun e w' => e = .returned (.agg #[.int .i64 2, .bool fl, .int .i64 0, .string ⟨#[]⟩, .slice none 0 0, .slice none 0 0]) ∧ Below w.heap.size w w' := by
  go_enter Tryz.func145, Tryz.ntmps145
  go_wp2_with fail
  refine bodyPost_ret (v := .agg #[.int .i64 2, .bool fl, .int .i64 0, .string ⟨#[]⟩, .slice none 0 0, .slice none 0 0]) ?_ rfl ⟨rfl, ((Below.refl _ _).alloc (Nat.le_refl _) _).alloc (by simp) _⟩
  exact ret_tree rfl rfl rfl (by have h := heap_alloc_new (w.alloc (.cells #[.bool fl] 85)) (.cells #[.int .i64 2, .bool fl, .int .i64 0, .string ⟨#[]⟩, .slice none 0 0, .slice none 0 0] 30); rw [World.size_alloc] at h; exact h)
theorem tree_intNode (n : Int) (w : World) :
    Calls Tryz.prog 146 #[.agg #[.int .i64 n]] w fun e w' => e = .returned (.agg #[.int .i64 3, .bool false, .int .i64 n, .string ⟨#[]⟩, .slice none 0 0, .slice none 0 0]) ∧ Below w.heap.size w w' := by
  go_enter Tryz.func146, Tryz.ntmps146
  go_wp2_with fail
  refine bodyPost_ret (v := .agg #[.int .i64 3, .bool false, .int .i64 n, .string ⟨#[]⟩, .slice none 0 0, .slice none 0 0]) ?_ rfl ⟨rfl, ((Below.refl _ _).alloc (Nat.le_refl _) _).alloc (by simp) _⟩
  exact ret_tree rfl rfl rfl (by have h := heap_alloc_new (w.alloc (.cells #[.int .i64 n] 87)) (.cells #[.int .i64 3, .bool false, .int .i64 n, .string ⟨#[]⟩, .slice none 0 0, .slice none 0 0] 30); rw [World.size_alloc] at h; exact h)
theorem tree_textNode (s : ByteArray) (w : World) :
    Calls Tryz.prog 147 #[.agg #[.string s]] w fun e w' => e = .returned (.agg #[.int .i64 4, .bool false, .int .i64 0, .string s, .slice none 0 0, .slice none 0 0]) ∧ Below w.heap.size w w' := by
  go_enter Tryz.func147, Tryz.ntmps147
  go_wp2_with fail
  refine bodyPost_ret (v := .agg #[.int .i64 4, .bool false, .int .i64 0, .string s, .slice none 0 0, .slice none 0 0]) ?_ rfl ⟨rfl, ((Below.refl _ _).alloc (Nat.le_refl _) _).alloc (by simp) _⟩
  exact ret_tree rfl rfl rfl (by have h := heap_alloc_new (w.alloc (.cells #[.string s] 89)) (.cells #[.int .i64 4, .bool false, .int .i64 0, .string s, .slice none 0 0, .slice none 0 0] 30); rw [World.size_alloc] at h; exact h)
theorem tree_listNode (A2 : Option Addr) (n2 c2 : Nat) (w : World) :
    Calls Tryz.prog 148 #[.agg #[.slice A2 n2 c2]] w fun e w' => e = .returned (.agg #[.int .i64 5, .bool false, .int .i64 0, .string ⟨#[]⟩, .slice none 0 0, .slice A2 n2 c2]) ∧ Below w.heap.size w w' := by
  go_enter Tryz.func148, Tryz.ntmps148
  go_wp2_with fail
  refine bodyPost_ret (v := .agg #[.int .i64 5, .bool false, .int .i64 0, .string ⟨#[]⟩, .slice none 0 0, .slice A2 n2 c2]) ?_ rfl ⟨rfl, ((Below.refl _ _).alloc (Nat.le_refl _) _).alloc (by simp) _⟩
  exact ret_tree rfl rfl rfl (by have h := heap_alloc_new (w.alloc (.cells #[.slice A2 n2 c2] 91)) (.cells #[.int .i64 5, .bool false, .int .i64 0, .string ⟨#[]⟩, .slice none 0 0, .slice A2 n2 c2] 30); rw [World.size_alloc] at h; exact h)
theorem tree_mapNode (A1 A2 : Option Addr) (n1 c1 n2 c2 : Nat) (w : World) :
    Calls Tryz.prog 149 #[.agg #[.slice A1 n1 c1, .slice A2 n2 c2]] w fun e w' => e = .returned (.agg #[.int .i64 6, .bool false, .int .i64 0, .string ⟨#[]⟩, .slice A1 n1 c1, .slice A2 n2 c2]) ∧ Below w.heap.size w w' := by
  go_enter Tryz.func149, Tryz.ntmps149
  go_wp2_with fail
  refine bodyPost_ret (v := .agg #[.int .i64 6, .bool false, .int .i64 0, .string ⟨#[]⟩, .slice A1 n1 c1, .slice A2 n2 c2]) ?_ rfl ⟨rfl, ((Below.refl _ _).alloc (Nat.le_refl _) _).alloc (by simp) _⟩
  exact ret_tree rfl rfl rfl (by have h := heap_alloc_new (w.alloc (.cells #[.slice A1 n1 c1, .slice A2 n2 c2] 93)) (.cells #[.int .i64 6, .bool false, .int .i64 0, .string ⟨#[]⟩, .slice A1 n1 c1, .slice A2 n2 c2] 30); rw [World.size_alloc] at h; exact h)
theorem nodeOf_1 (fl : Bool) (n : Int) (s : ByteArray) (A1 A2 : Option Addr) (n1 c1 n2 c2 : Nat) (w : World) :
    Calls Tryz.prog 47 #[.agg #[.int .i64 1, .bool fl, .int .i64 n, .string s, .slice A1 n1 c1, .slice A2 n2 c2]] w fun e w' => e = .returned (.tuple #[.iface 83 (.agg #[]), .bool true]) ∧ Below w.heap.size w w' := by
  have HB := Lib.hid (Box.new 30 w [.int .i64 1, .bool fl, .int .i64 n, .string s, .slice A1 n1 c1, .slice A2 n2 c2])
  have p0 := HB.out.cell (j := 0) rfl
  have p1 := HB.out.cell (j := 1) rfl
  have p2 := HB.out.cell (j := 2) rfl
  have p3 := HB.out.cell (j := 3) rfl
  have p4 := HB.out.cell (j := 4) rfl
  have p5 := HB.out.cell (j := 5) rfl
  go_enter Tryz.func47, Tryz.ntmps47
  go_wp2_with fail
  go_ret2
  exact ⟨rfl, HB.out.1⟩
theorem nodeOf_2 (fl : Bool) (n : Int) (s : ByteArray) (A1 A2 : Option Addr) (n1 c1 n2 c2 : Nat) (w : World) :
    Calls Tryz.prog 47 #[.agg #[.int .i64 2, .bool fl, .int .i64 n, .string s, .slice A1 n1 c1, .slice A2 n2 c2]] w fun e w' => e = .returned (.tuple #[.iface 85 (.agg #[.bool fl]), .bool true]) ∧ Below w.heap.size w w' := by
  have HB := Lib.hid (Box.new 30 w [.int .i64 2, .bool fl, .int .i64 n, .string s, .slice A1 n1 c1, .slice A2 n2 c2])
  have p0 := HB.out.cell (j := 0) rfl
  have p1 := HB.out.cell (j := 1) rfl
  have p2 := HB.out.cell (j := 2) rfl
  have p3 := HB.out.cell (j := 3) rfl
  have p4 := HB.out.cell (j := 4) rfl
  have p5 := HB.out.cell (j := 5) rfl
  go_enter Tryz.func47, Tryz.ntmps47
  go_wp2_with fail
  go_ret2
  exact ⟨rfl, HB.out.1⟩
theorem nodeOf_3 (fl : Bool) (n : Int) (s : ByteArray) (A1 A2 : Option Addr) (n1 c1 n2 c2 : Nat) (w : World) :
    Calls Tryz.prog 47 #[.agg #[.int .i64 3, .bool fl, .int .i64 n, .string s, .slice A1 n1 c1, .slice A2 n2 c2]] w fun e w' => e = .returned (.tuple #[.iface 87 (.agg #[.int .i64 n]), .bool true]) ∧ Below w.heap.size w w' := by
  have HB := Lib.hid (Box.new 30 w [.int .i64 3, .bool fl, .int .i64 n, .string s, .slice A1 n1 c1, .slice A2 n2 c2])
  have p0 := HB.out.cell (j := 0) rfl
  have p1 := HB.out.cell (j := 1) rfl
  have p2 := HB.out.cell (j := 2) rfl
  have p3 := HB.out.cell (j := 3) rfl
  have p4 := HB.out.cell (j := 4) rfl
  have p5 := HB.out.cell (j := 5) rfl
  go_enter Tryz.func47, Tryz.ntmps47
  go_wp2_with fail
  go_ret2
  exact ⟨rfl, HB.out.1⟩
theorem nodeOf_4 (fl : Bool) (n : Int) (s : ByteArray) (A1 A2 : Option Addr) (n1 c1 n2 c2 : Nat) (w : World) :
    Calls Tryz.prog 47 #[.agg #[.int .i64 4, .bool fl, .int .i64 n, .string s, .slice A1 n1 c1, .slice A2 n2 c2]] w fun e w' => e = .returned (.tuple #[.iface 89 (.agg #[.string s]), .bool true]) ∧ Below w.heap.size w w' := by
  have HB := Lib.hid (Box.new 30 w [.int .i64 4, .bool fl, .int .i64 n, .string s, .slice A1 n1 c1, .slice A2 n2 c2])
  have p0 := HB.out.cell (j := 0) rfl
  have p1 := HB.out.cell (j := 1) rfl
  have p2 := HB.out.cell (j := 2) rfl
  have p3 := HB.out.cell (j := 3) rfl
  have p4 := HB.out.cell (j := 4) rfl
  have p5 := HB.out.cell (j := 5) rfl
  go_enter Tryz.func47, Tryz.ntmps47
  go_wp2_with fail
  go_ret2
  exact ⟨rfl, HB.out.1⟩
theorem nodeOf_5 (fl : Bool) (n : Int) (s : ByteArray) (A1 A2 : Option Addr) (n1 c1 n2 c2 : Nat) (w : World) :
    Calls Tryz.prog 47 #[.agg #[.int .i64 5, .bool fl, .int .i64 n, .string s, .slice A1 n1 c1, .slice A2 n2 c2]] w fun e w' => e = .returned (.tuple #[.iface 91 (.agg #[.slice A2 n2 c2]), .bool true]) ∧ Below w.heap.size w w' := by
  have HB := Lib.hid (Box.new 30 w [.int .i64 5, .bool fl, .int .i64 n, .string s, .slice A1 n1 c1, .slice A2 n2 c2])
  have p0 := HB.out.cell (j := 0) rfl
  have p1 := HB.out.cell (j := 1) rfl
  have p2 := HB.out.cell (j := 2) rfl
  have p3 := HB.out.cell (j := 3) rfl
  have p4 := HB.out.cell (j := 4) rfl
  have p5 := HB.out.cell (j := 5) rfl
  go_enter Tryz.func47, Tryz.ntmps47
  go_wp2_with fail
  go_ret2
  exact ⟨rfl, HB.out.1⟩
theorem nodeOf_6 (fl : Bool) (n : Int) (s : ByteArray) (A1 A2 : Option Addr) (n1 c1 n2 c2 : Nat) (w : World) :
    Calls Tryz.prog 47 #[.agg #[.int .i64 6, .bool fl, .int .i64 n, .string s, .slice A1 n1 c1, .slice A2 n2 c2]] w fun e w' => e = .returned (.tuple #[.iface 93 (.agg #[.slice A1 n1 c1, .slice A2 n2 c2]), .bool true]) ∧ Below w.heap.size w w' := by
  have HB := Lib.hid (Box.new 30 w [.int .i64 6, .bool fl, .int .i64 n, .string s, .slice A1 n1 c1, .slice A2 n2 c2])
  have p0 := HB.out.cell (j := 0) rfl
  have p1 := HB.out.cell (j := 1) rfl
  have p2 := HB.out.cell (j := 2) rfl
  have p3 := HB.out.cell (j := 3) rfl
  have p4 := HB.out.cell (j := 4) rfl
  have p5 := HB.out.cell (j := 5) rfl
  go_enter Tryz.func47, Tryz.ntmps47
  go_wp2_with fail
  go_ret2
  exact ⟨rfl, HB.out.1⟩
theorem nodeOf_no (k : Int) (fl : Bool) (n : Int) (s : ByteArray) (A1 A2 : Option Addr) (n1 c1 n2 c2 : Nat) (w : World) (hk : ¬ (1 ≤ k ∧ k ≤ 6)) :
    Calls Tryz.prog 47 #[.agg #[.int .i64 k, .bool fl, .int .i64 n, .string s, .slice A1 n1 c1, .slice A2 n2 c2]] w fun e w' => e = .returned (.tuple #[.nilIface, .bool false]) ∧ Below w.heap.size w w' := by
  have HB := Lib.hid (Box.new 30 w [.int .i64 k, .bool fl, .int .i64 n, .string s, .slice A1 n1 c1, .slice A2 n2 c2])
  have p0 := HB.out.cell (j := 0) rfl
  have e1 : (k == 1) = false := beq_eq_false_iff_ne.2 (by omega)
  have e2 : (k == 2) = false := beq_eq_false_iff_ne.2 (by omega)
  have e3 : (k == 3) = false := beq_eq_false_iff_ne.2 (by omega)
  have e4 : (k == 4) = false := beq_eq_false_iff_ne.2 (by omega)
  have e5 : (k == 5) = false := beq_eq_false_iff_ne.2 (by omega)
  have e6 : (k == 6) = false := beq_eq_false_iff_ne.2 (by omega)
  clear hk
  go_enter Tryz.func47, Tryz.ntmps47
  go_wp2_with fail
  go_ret2
  exact ⟨rfl, HB.out.1⟩
end Go.Proofs.YtbfkkaafkinpmaaGreatDoor.tree
namespace Go.Proofs.YtbfkkaafkinpmaaGreatDoor.tree
open Go Go.RowKit
set_option linter.unusedVariables false

theorem dec_eq {p : Prop} {b : Bool} (h : p ↔ b = true) : dec p = b := by
  cases b with
  | true => exact dec_yes (h.2 rfl)
  | false => exact dec_no (fun hp => by cases h.1 hp)
theorem text_empty : TextOk ⟨#[]⟩ := ⟨by decide, by decide⟩
theorem keys_none : KeysOk [] := fun i hi => by simp at hi
theorem size_zero {s : ByteArray} (h : ¬ 0 < s.size) : s = ⟨#[]⟩ := by
  apply ByteArray.ext
  apply Array.eq_empty_of_size_eq_zero
  have : s.data.size = s.size := rfl
  omega
def emp : ByteArray := ⟨#[]⟩
theorem node_1 (fl : Bool) (n : Int) (s : ByteArray) (ks : List ByteArray) (kids : List T) : dec (Node (.mk 1 fl n s ks kids)) = sameF (.mk 1 false 0 ⟨#[]⟩ [] []) (.mk 1 fl n s ks kids) := by
  refine dec_eq ?_
  unfold Node Fit sameF
  rw [decide_eq_true_iff]
  constructor
  · rintro ⟨⟨_, _, h1, h2, h3, h4, h5, _⟩, _, _⟩
    have e1 : fl = false := by cases fl with
      | false => rfl
      | true => have := h1 rfl; omega
    have e2 : n = 0 := by
      by_cases h : n = 0
      · exact h
      · have := h2 h; omega
    have e3 : s = ⟨#[]⟩ := size_zero (fun h => by have := h3 h; omega)
    have e4 : ks = [] := List.eq_nil_of_length_eq_zero (by by_cases h : 0 < ks.length; · have := h4 h; omega
                                                           · omega)
    have e5 : kids.length = 0 := by by_cases h : 0 < kids.length; · have := h5 h; omega
                                    · omega
    subst e1 e2 e3 e4
    exact ⟨rfl, rfl, rfl, rfl, rfl, e5.symm⟩
  · rintro ⟨_, rfl, rfl, rfl, rfl, h⟩
    have h : kids.length = 0 := h.symm
    exact ⟨⟨by omega, by omega, by simp, by simp, fun h => absurd h (by decide), by simp, by omega, by omega⟩, text_empty, keys_none⟩
theorem node_2 (fl : Bool) (n : Int) (s : ByteArray) (ks : List ByteArray) (kids : List T) : dec (Node (.mk 2 fl n s ks kids)) = sameF (.mk 2 fl 0 ⟨#[]⟩ [] []) (.mk 2 fl n s ks kids) := by
  refine dec_eq ?_
  unfold Node Fit sameF
  rw [decide_eq_true_iff]
  constructor
  · rintro ⟨⟨_, _, h1, h2, h3, h4, h5, _⟩, _, _⟩
    have e2 : n = 0 := by
      by_cases h : n = 0
      · exact h
      · have := h2 h; omega
    have e3 : s = ⟨#[]⟩ := size_zero (fun h => by have := h3 h; omega)
    have e4 : ks = [] := List.eq_nil_of_length_eq_zero (by by_cases h : 0 < ks.length; · have := h4 h; omega
                                                           · omega)
    have e5 : kids.length = 0 := by by_cases h : 0 < kids.length; · have := h5 h; omega
                                    · omega
    subst e2 e3 e4
    exact ⟨rfl, rfl, rfl, rfl, rfl, e5.symm⟩
  · rintro ⟨_, _, rfl, rfl, rfl, h⟩
    have h : kids.length = 0 := h.symm
    exact ⟨⟨by omega, by omega, by simp, by simp, fun h => absurd h (by decide), by simp, by omega, by omega⟩, text_empty, keys_none⟩
theorem node_3 (fl : Bool) (n : Int) (s : ByteArray) (ks : List ByteArray) (kids : List T) : dec (Node (.mk 3 fl n s ks kids)) = sameF (.mk 3 false n ⟨#[]⟩ [] []) (.mk 3 fl n s ks kids) := by
  refine dec_eq ?_
  unfold Node Fit sameF
  rw [decide_eq_true_iff]
  constructor
  · rintro ⟨⟨_, _, h1, h2, h3, h4, h5, _⟩, _, _⟩
    have e1 : fl = false := by cases fl with
      | false => rfl
      | true => have := h1 rfl; omega
    have e3 : s = ⟨#[]⟩ := size_zero (fun h => by have := h3 h; omega)
    have e4 : ks = [] := List.eq_nil_of_length_eq_zero (by by_cases h : 0 < ks.length; · have := h4 h; omega
                                                           · omega)
    have e5 : kids.length = 0 := by by_cases h : 0 < kids.length; · have := h5 h; omega
                                    · omega
    subst e1 e3 e4
    exact ⟨rfl, rfl, rfl, rfl, rfl, e5.symm⟩
  · rintro ⟨_, rfl, _, rfl, rfl, h⟩
    have h : kids.length = 0 := h.symm
    exact ⟨⟨by omega, by omega, by simp, by simp, fun h => absurd h (by decide), by simp, by omega, by omega⟩, text_empty, keys_none⟩
theorem node_4 (fl : Bool) (n : Int) (s : ByteArray) (ks : List ByteArray) (kids : List T) : dec (Node (.mk 4 fl n s ks kids)) = (sameF (.mk 4 false 0 s [] []) (.mk 4 fl n s ks kids) && dec (TextOk s)) := by
  refine dec_eq ?_
  unfold Node Fit sameF
  rw [Bool.and_eq_true, decide_eq_true_iff]
  constructor
  · rintro ⟨⟨_, _, h1, h2, h3, h4, h5, _⟩, ht, _⟩
    have e1 : fl = false := by cases fl with
      | false => rfl
      | true => have := h1 rfl; omega
    have e2 : n = 0 := by
      by_cases h : n = 0
      · exact h
      · have := h2 h; omega
    have e4 : ks = [] := List.eq_nil_of_length_eq_zero (by by_cases h : 0 < ks.length; · have := h4 h; omega
                                                           · omega)
    have e5 : kids.length = 0 := by by_cases h : 0 < kids.length; · have := h5 h; omega
                                    · omega
    subst e1 e2 e4
    exact ⟨⟨rfl, rfl, rfl, rfl, rfl, e5.symm⟩, dec_yes ht⟩
  · rintro ⟨⟨_, rfl, rfl, _, rfl, h⟩, ht⟩
    have h : kids.length = 0 := h.symm
    have ht : TextOk s := by
      by_cases h2 : TextOk s
      · exact h2
      · rw [dec_no h2] at ht; cases ht
    exact ⟨⟨by omega, by omega, by simp, by simp, by simp, by simp, by omega, by omega⟩, ht, keys_none⟩
theorem node_5 (fl : Bool) (n : Int) (s : ByteArray) (ks : List ByteArray) (kids : List T) : dec (Node (.mk 5 fl n s ks kids)) = sameF (.mk 5 false 0 ⟨#[]⟩ [] kids) (.mk 5 fl n s ks kids) := by
  refine dec_eq ?_
  unfold Node Fit sameF
  rw [decide_eq_true_iff]
  constructor
  · rintro ⟨⟨_, _, h1, h2, h3, h4, h5, _⟩, _, _⟩
    have e1 : fl = false := by cases fl with
      | false => rfl
      | true => have := h1 rfl; omega
    have e2 : n = 0 := by
      by_cases h : n = 0
      · exact h
      · have := h2 h; omega
    have e3 : s = ⟨#[]⟩ := size_zero (fun h => by have := h3 h; omega)
    have e4 : ks = [] := List.eq_nil_of_length_eq_zero (by by_cases h : 0 < ks.length; · have := h4 h; omega
                                                           · omega)
    subst e1 e2 e3 e4
    exact ⟨rfl, rfl, rfl, rfl, rfl, rfl⟩
  · rintro ⟨_, rfl, rfl, rfl, rfl, _⟩
    exact ⟨⟨by omega, by omega, by simp, by simp, fun h => absurd h (by decide), by simp, by omega, by omega⟩, text_empty, keys_none⟩
theorem node_6 (fl : Bool) (n : Int) (s : ByteArray) (ks : List ByteArray) (kids : List T) : dec (Node (.mk 6 fl n s ks kids)) = (sameF (.mk 6 false 0 ⟨#[]⟩ ks kids) (.mk 6 fl n s ks kids) && (decide (ks.length = kids.length) && dec (KeysOk ks))) := by
  refine dec_eq ?_
  unfold Node Fit sameF
  rw [Bool.and_eq_true, Bool.and_eq_true, decide_eq_true_iff, decide_eq_true_iff]
  constructor
  · rintro ⟨⟨_, _, h1, h2, h3, h4, h5, h6⟩, _, hk⟩
    have e1 : fl = false := by cases fl with
      | false => rfl
      | true => have := h1 rfl; omega
    have e2 : n = 0 := by
      by_cases h : n = 0
      · exact h
      · have := h2 h; omega
    have e3 : s = ⟨#[]⟩ := size_zero (fun h => by have := h3 h; omega)
    subst e1 e2 e3
    exact ⟨⟨rfl, rfl, rfl, rfl, rfl, rfl⟩, h6 rfl, dec_yes hk⟩
  · rintro ⟨⟨_, rfl, rfl, rfl, _, _⟩, hl, hk⟩
    have hk : KeysOk ks := by
      by_cases h2 : KeysOk ks
      · exact h2
      · rw [dec_no h2] at hk; cases hk
    exact ⟨⟨by omega, by omega, by simp, by simp, fun h => absurd h (by decide), by simp, by omega, fun _ => hl⟩, text_empty, hk⟩
theorem node_no {k : Int} (fl : Bool) (n : Int) (s : ByteArray) (ks : List ByteArray) (kids : List T) (h : ¬ (1 ≤ k ∧ k ≤ 6)) : dec (Node (.mk k fl n s ks kids)) = false :=
  dec_no (fun hn => h ⟨hn.1.1, hn.1.2.1⟩)
end Go.Proofs.YtbfkkaafkinpmaaGreatDoor.tree
