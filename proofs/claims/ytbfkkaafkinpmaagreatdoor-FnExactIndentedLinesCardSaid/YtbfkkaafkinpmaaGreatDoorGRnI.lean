/- Merged: RnAtI RnBgI RnsI. -/
import Derived.Test.YtbfkkaafkinpmaaGreatDoorShelf
import Derived.Test.YtbfkkaafkinpmaaGreatDoorRuneM
import Derived.Test.YtbfkkaafkinpmaaGreatDoorRows
import Derived.ProofKit
import Derived.OpenShut
import Derived.Lib.LaidTab
import Derived.Test.YtbfkkaafkinpmaaGreatDoorGRn
import Derived.Test.YtbfkkaafkinpmaaGreatDoorGArith
import Derived.LoopTactic
namespace Go.Proofs.YtbfkkaafkinpmaaGreatDoor.rune
open Go.ChangeShapes Go.WideShapes Go.ChangeAt Go.RowKit
set_option linter.unusedVariables false

/-- The tables. -/
def Tabs (w : World) : Prop := Lib.Utf8Tabs 2 3 w
theorem Tabs.below {w w' : World} (h : Tabs w) (hb : Below w.heap.size w w') : Tabs w' := Utf8Tabs_below h hb
/-- What DecodeRuneInString hands back, of what lies behind place p. -/
theorem lib_decode (s : ByteArray) (p : Nat) (hp : p < s.size) (w : World) (hT : Tabs w) :
    Calls Tryz.prog 106 #[.string (s.extract p s.size)] w fun e w' => e = .returned (.tuple #[.int .i32 (Utf8.decode s p).1, .int .i64 (Utf8.decode s p).2]) ∧ Below w.heap.size w w' := by
  have h := Tryz.utf8_DecodeRuneInString (s.extract p s.size) w hT
  have hz : ¬ (s.extract p s.size).size = 0 := by rw [ByteArray.size_extract]; omega
  unfold Lib.decodeGo at h
  rw [if_neg hz, decode_behind s p (by omega)] at h
  exact h

theorem impl_at_out (s : ByteArray) (a : Int) (w : World) (hs : s.size ≤ maxLen) (h : ¬ (0 ≤ a ∧ a < s.size)) :
    Calls Tryz.prog 102 #[.string s, .int .i64 a] w fun e w' => e = .returned (.tuple #[.int .i64 (atF s a).1, .int .i64 (atF s a).2]) ∧ Below w.heap.size w w' := by
  unfold maxLen at hs
  have Hr := Lib.hid (at_out h)
  rw [Hr.out]
  clear Hr
  by_cases h1 : a < 0
  · clear h
    go_enter Tryz.func102, Tryz.ntmps102
    go_wp2_with fail
    go_ret2
    exact ⟨rfl, Below.refl _ _⟩
  · have h2 : (s.size : Int) ≤ a := by omega
    clear h
    go_enter Tryz.func102, Tryz.ntmps102
    go_wp2_with fail
    go_ret2
    exact ⟨rfl, Below.refl _ _⟩
theorem impl_at_in (s : ByteArray) (p : Nat) (w : World) (hs : s.size ≤ maxLen) (hp : p < s.size) (hT : Tabs w) :
    Calls Tryz.prog 102 #[.string s, .int .i64 p] w fun e w' => e = .returned (.tuple #[.int .i64 (atF s p).1, .int .i64 (atF s p).2]) ∧ Below w.heap.size w w' := by
  unfold maxLen at hs
  have HD := Lib.hid (lib_decode s p hp w hT)
  have hle := decode_le s p
  clear hT
  rcases at_decode s p hp with ⟨e, hr⟩ | ⟨hr, hne, his⟩
  · have Hr := Lib.hid hr
    rw [Hr.out]
    rw [e] at HD
    clear hr e hle
    go_enter Tryz.func102, Tryz.ntmps102
    go_wp2_with fail
    refine HD.out.mono ?_
    rintro e w1 ⟨rfl, hb⟩
    clear HD
    go_wp2_with fail
    go_ret2
    exact ⟨rfl, hb⟩
  · have Hr := Lib.hid hr
    rw [Hr.out]
    have hend := his.2.1
    have hsz : (Utf8.decode s p).2 ≤ 4 ∧ p + (Utf8.decode s p).2 ≤ s.size := by
      rcases decode_is s p hp with ⟨_, e⟩ | ⟨e, _⟩
      · rw [e]; exact ⟨enc_le _, hend⟩
      · exact absurd e hne
    clear hr his hend Hr
    generalize hd : Utf8.decode s p = d at *
    obtain ⟨r, k⟩ := d
    simp only at HD hle hsz ⊢
    by_cases hk : r = 65533 ∧ k = 1
    · exact absurd (by rw [hk.1, hk.2]) hne
    clear hne hd
    by_cases hr2 : r = 65533
    · subst hr2
      have hk1 : ((k : Int) == 1) = false := by simp; omega
      clear hk
      go_enter Tryz.func102, Tryz.ntmps102
      go_wp2_with fail
      refine HD.out.mono ?_
      rintro e w1 ⟨rfl, hb⟩
      clear HD
      go_wp2_with fail
      go_ret2
      exact ⟨by simp, hb⟩
    · have hk1 : ((r : Int) == 65533) = false := by simp; omega
      clear hk
      go_enter Tryz.func102, Tryz.ntmps102
      go_wp2_with fail
      refine HD.out.mono ?_
      rintro e w1 ⟨rfl, hb⟩
      clear HD
      go_wp2_with fail
      go_ret2
      exact ⟨by simp, hb⟩
theorem impl_at (s : ByteArray) (a : Int) (w : World) (hs : s.size ≤ maxLen) (hT : Tabs w) :
    Calls Tryz.prog 102 #[.string s, .int .i64 a] w fun e w' => e = .returned (.tuple #[.int .i64 (atF s a).1, .int .i64 (atF s a).2]) ∧ Below w.heap.size w w' := by
  by_cases h : 0 ≤ a ∧ a < s.size
  · obtain ⟨p, rfl⟩ := Int.eq_ofNat_of_zero_le h.1
    exact impl_at_in s p w hs (by omega) hT
  · exact impl_at_out s a w hs h
end Go.Proofs.YtbfkkaafkinpmaaGreatDoor.rune
namespace Go.Proofs.YtbfkkaafkinpmaaGreatDoor.rune
open Go.ChangeShapes Go.WideShapes Go.ChangeAt Go.RowKit
set_option linter.unusedVariables false

/-- A number is told at place p. -/
theorem impl_begins (s : ByteArray) (p : Nat) (w : World) (hs : s.size ≤ maxLen) (hT : Tabs w) :
    Calls Tryz.prog 87 #[.string s, .int .i64 p] w fun e w' => e = .returned (.bool (decide (0 ≤ (atF s p).2))) ∧ Below w.heap.size w w' := by
  have HA := Lib.hid (impl_at s p w hs hT)
  generalize (atF s p).1 = x at HA
  generalize (atF s p).2 = y at HA ⊢
  clear hT
  go_enter Tryz.func87, Tryz.ntmps87
  go_wp2_with fail
  refine HA.out.mono ?_
  rintro e w1 ⟨rfl, hb⟩
  clear HA
  go_wp2_with fail
  go_ret
  exact ⟨rfl, hb⟩
end Go.Proofs.YtbfkkaafkinpmaaGreatDoor.rune
namespace Go.Proofs.YtbfkkaafkinpmaaGreatDoor.rune
open Go.ChangeShapes Go.WideShapes Go.ChangeAt Go.RowKit
set_option linter.unusedVariables false

set_option maxRecDepth 100000 in
theorem impl_runes (s : ByteArray) (w : World) (hs : s.size ≤ 1048576) (hT : Tabs w) :
    Calls Tryz.prog 77 #[.string s] w fun e w' => ∃ v, e = .returned (.tuple #[v, .bool (okS s)]) ∧ w'.ownsRow w.heap.size 3 1 v (resL s).length (icells (resL s)) ∧ Below w.heap.size w w' := by
  obtain ⟨i0, hi, hz0, hz1, hz2⟩ := info_parts iinfo.Tryzinfo
  have HT := Lib.hid hT
  clear hT
  obtain ⟨w1, hw1⟩ : ∃ w1, w1 = w.alloc (.cells #[] 3) := ⟨_, rfl⟩
  have hsz : w1.heap.size = w.heap.size + 1 := by subst hw1; simp
  have hown1 : (w1.iter s 0).ownsRow w.heap.size 3 1 (.slice (some ⟨w.heap.size, 0, none⟩) 0 0) 0 (icells []) := by
    have h : w1.ownsRow w.heap.size 3 1 (.slice (some ⟨w.heap.size, 0, none⟩) 0 0) 0 (icells []) := by subst hw1; exact World.ownsRow_lit w #[] 0 (Nat.le_refl _) (by simp [maxLen]) rfl
    exact h.alloc _
  have hb1 : Below w.heap.size w (w1.iter s 0) := by subst hw1; exact ((Below.refl w.heap.size w).alloc (Nat.le_refl _) _).alloc (by simp) _
  have hg1 : (w1.iter s 0).heap[w.heap.size + 1]? = some (.stringIter s 0) := by rw [← hsz]; exact World.iter_heap w1 s 0
  subst hw1
  have Hown := Lib.hid hown1
  have Hb := Lib.hid hb1
  have Hg := Lib.hid hg1
  clear hown1 hb1 hg1 hsz
  go_enter Tryz.func77, Tryz.ntmps77
  go_wp2_with fail
  go_loopw [4] (fun v wr => ∃ (pos : Nat) (l : List Int), wr.heap[w.heap.size + 1]? = some (.stringIter s pos) ∧ l.length ≤ pos ∧ Hid ((cut s (s.size - pos) pos).map (l ++ ·) = runesF s) ∧ wr.ownsRow w.heap.size 3 1 v l.length (icells l) ∧ Below w.heap.size w wr) (fun _ wr => s.size - wr.iterPos (w.heap.size + 1))
  case atStart => exact ⟨0, [], Hg.out, Nat.le_refl _, by unfold Hid; rw [Nat.sub_zero]; simp [runesF], Hown.out, Hb.out⟩
  case round =>
    clear Hown Hb Hg
    obtain ⟨pos, l, hg, hl, hr, hown, hbel⟩ := hrel
    by_cases hp : pos < s.size
    · have hnx : ∀ ty, (Instr.next (.pointer (some ⟨w.heap.size + 1, 0, none⟩)) true ty).run Tryz.prog wr = _ := fun ty => next_yes wr (w.heap.size + 1) s pos ty hg hp
      have hown2 := own_stepI (q := pos + (Utf8.decode s pos).2) hown hg
      have hg2 := stepI_at (q := pos + (Utf8.decode s pos).2) hg
      have hbel2 := stepI_below (s := s) (p := pos + (Utf8.decode s pos).2) hbel (Nat.le_succ _)
      have hle := decode_le s pos
      have HB := Lib.hid (fun w2 hb => impl_begins s pos w2 (by unfold maxLen; omega) (HT.out.below hb))
      have hip : Hid (wr.iterPos (w.heap.size + 1) = pos) := by unfold Hid World.iterPos; rw [hg]
      clear hown hg hbel
      rcases at_decode s pos hp with ⟨e, ha⟩ | ⟨ha, hne, his⟩
      · have Hn := Lib.hid (cut_fail hp (by rw [ha]; decide) hr.out)
        have HR := Lib.hid (res_none Hn.out)
        rw [ha] at HB
        rw [e] at hnx hown2 hg2 hbel2
        clear ha e hle hr
        generalize stepI wr (w.heap.size + 1) s (pos + (65533, 1).2) = w2 at hnx hown2 hg2 hbel2
        go_wp2_with fail
        refine (HB.out _ hbel2).mono ?_
        rintro e w3 ⟨rfl, hb3⟩
        clear HB hnx
        go_wp2_with fail
        go_ret2
        exact ⟨.slice none 0 0, by rw [HR.out.2]; rfl, by rw [HR.out.1]; exact World.ownsRow_nil _ _ _ _, hbel2.trans (hb3.mono hbel2.size)⟩
      · have hk : (Utf8.decode s pos).2 = (enc (Utf8.decode s pos).1).length := by
          rcases decode_is s pos hp with ⟨_, e⟩ | ⟨e, _⟩
          · exact e
          · exact absurd e hne
        have Hr := Lib.hid (cut_more his hk hr.out)
        have hk1 : 0 < (Utf8.decode s pos).2 := by rw [hk]; exact enc_pos _
        have hpy : Hid ((0 : Int) ≤ (atF s pos).2) := by unfold Hid; rw [ha]; exact Int.natCast_nonneg _
        have hpd := decide_eq_true hpy.out
        rw [hpd] at HB
        clear ha hne his hr hk hpd hpy
        generalize hd : Utf8.decode s pos = d at *
        obtain ⟨r, k⟩ := d
        simp only at hnx hown2 hg2 hbel2 hle Hr hk1
        clear hd
        generalize stepI wr (w.heap.size + 1) s (pos + k) = w2 at hnx hown2 hg2 hbel2
        by_cases hr2 : r = 65533
        · subst hr2
          go_wp2_with fail
          refine (HB.out _ hbel2).mono ?_
          rintro e w3 ⟨rfl, hb3⟩
          have hown3 := own_below hown2 hb3
          have hg3 := iter_kept hg2 hb3
          have hbel3 := hbel2.trans (hb3.mono hbel2.size)
          clear HB hnx hown2 hg2 hbel2 hb3
          go_wp2_with (first | (at_builtin; refine wpList_append_own _ rfl (.tmp 22) (.tmp 25) 79 rfl w.heap.size 3 i0 (.int .i64 0) 1 8 Tryz.underlying79 hi hz0 hz1 hz2 rfl (by decide) _ l.length _ rfl (hown3.alloc _) ⟨w3.heap.size, 0, none⟩ 1 1 [.int .i64 65533] rfl rfl (by exact lit_cells _ _ _) (iinfo.one_cell _) (by unfold maxLen; omega) (by omega) (by have := hbel3.size; simp; omega) ?_) | fail)
          intro v4 w4 hown4 hgr4 _
          have hbel4 : Below w.heap.size w w4 := (hbel3.alloc hbel3.size _).grown hgr4 (by have := hbel3.size; simp; omega) (fun b hb => (hown3.lt b hb).1)
          have hg4 : w4.heap[w.heap.size + 1]? = some (.stringIter s (pos + k)) := by
            have hlt := (Array.getElem?_eq_some_iff.1 hg3).1
            rw [hgr4.block _ (by simp; omega) (own_ne_iter hown3 hg3).symm, Below.heap_alloc _ _ _ hlt]
            exact hg3
          rw [iinfo.snoc] at hown4
          clear hown3 hbel3 hgr4 hg3
          go_wp2_with fail
          go_roundw
          case rel => exact ⟨pos + k, l ++ [(65533 : Int)], hg4, by simp; omega, Hr.out, by simpa using hown4, hbel4⟩
          case measure =>
            rw [hip.out]
            unfold World.iterPos
            rw [hg4]
            simp only
            omega
        · have e0 : ((r : Int) == 65533) = false := by simp; omega
          clear HB
          go_wp2_with (first | (at_builtin; refine wpList_append_own _ rfl (.tmp 22) (.tmp 25) 79 rfl w.heap.size 3 i0 (.int .i64 0) 1 8 Tryz.underlying79 hi hz0 hz1 hz2 rfl (by decide) _ l.length _ rfl (hown2.alloc _) ⟨w2.heap.size, 0, none⟩ 1 1 [.int .i64 (r : Int)] rfl rfl (by exact lit_cells _ _ _) (iinfo.one_cell _) (by unfold maxLen; omega) (by omega) (by have := hbel2.size; simp; omega) ?_) | fail)
          intro v4 w4 hown4 hgr4 _
          have hbel4 : Below w.heap.size w w4 := (hbel2.alloc hbel2.size _).grown hgr4 (by have := hbel2.size; simp; omega) (fun b hb => (hown2.lt b hb).1)
          have hg4 : w4.heap[w.heap.size + 1]? = some (.stringIter s (pos + k)) := by
            have hlt := (Array.getElem?_eq_some_iff.1 hg2).1
            rw [hgr4.block _ (by simp; omega) (own_ne_iter hown2 hg2).symm, Below.heap_alloc _ _ _ hlt]
            exact hg2
          rw [iinfo.snoc] at hown4
          clear hown2 hbel2 hgr4 hg2 hnx
          go_wp2_with fail
          go_roundw
          case rel => exact ⟨pos + k, l ++ [(r : Int)], hg4, by simp; omega, Hr.out, by simpa using hown4, hbel4⟩
          case measure =>
            rw [hip.out]
            unfold World.iterPos
            rw [hg4]
            simp only
            omega
    · have hnx : ∀ ty, (Instr.next (.pointer (some ⟨w.heap.size + 1, 0, none⟩)) true ty).run Tryz.prog wr = _ := fun ty => next_no wr (w.heap.size + 1) s pos ty hg hp
      have HR := Lib.hid (res_some (cut_stop (by omega) hr.out))
      clear hg hr
      go_wp2_with fail
      go_ret2
      exact ⟨_, by rw [HR.out.2]; rfl, by rw [HR.out.1]; exact hown, hbel⟩

theorem impl_utf (s : ByteArray) (w : World) (hs : s.size ≤ 1048576) (hT : Tabs w) :
    Calls Tryz.prog 69 #[.string s] w fun e w' => e = .returned (.bool (okS s)) ∧ Below w.heap.size w w' := by
  have HR := Lib.hid (impl_runes s w hs hT)
  generalize okS s = b at HR ⊢
  clear hT
  go_enter Tryz.func69, Tryz.ntmps69
  go_wp2_with fail
  refine HR.out.mono ?_
  rintro e w1 ⟨v, rfl, _, hb⟩
  clear HR
  go_wp2_with fail
  go_ret
  exact ⟨rfl, hb⟩
end Go.Proofs.YtbfkkaafkinpmaaGreatDoor.rune
