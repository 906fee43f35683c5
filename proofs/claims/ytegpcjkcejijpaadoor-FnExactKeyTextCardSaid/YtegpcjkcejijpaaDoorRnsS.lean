/- spec.RunesOf, spec.Utf8Ok. -/
import Derived.Test.YtegpcjkcejijpaaDoorRnAtS
import Derived.Test.YtegpcjkcejijpaaDoorIter
import Derived.Test.YtegpcjkcejijpaaDoorIntInfo
namespace Go.Proofs.YtegpcjkcejijpaaDoor.rune
open Go.ChangeShapes Go.WideShapes Go.ChangeAt Go.RowKit
set_option linter.unusedVariables false

set_option maxRecDepth 100000 in
theorem spec_runes (s : ByteArray) (w : World) (hs : s.size ≤ 1048576) :
    Calls Tryd.prog 13 #[.string s] w fun e w' => ∃ v, e = .returned (.tuple #[v, .bool (okS s)]) ∧ w'.ownsRow w.heap.size 3 1 v (resL s).length (icells (resL s)) ∧ Below w.heap.size w w' := by
  obtain ⟨i0, hi, hz0, hz1, hz2⟩ := info_parts iinfo.Trydinfo
  have hown1 : (w.alloc (.cells #[] 3)).ownsRow w.heap.size 3 1 (.slice (some ⟨w.heap.size, 0, none⟩) 0 0) 0 (icells []) := World.ownsRow_lit w #[] 0 (Nat.le_refl _) (by simp [maxLen]) rfl
  have Hown := Lib.hid hown1
  have Hb := Lib.hid ((Below.refl w.heap.size w).alloc (Nat.le_refl _) (.cells #[] 3))
  clear hown1
  go_enter Tryd.func13, Tryd.ntmps13
  go_wp2_with fail
  go_loopw [4, 5] (fun v i wr => ∃ (pos : Nat) (l : List Int), i = .int .i64 pos ∧ pos ≤ s.size ∧ l.length ≤ pos ∧ Hid ((cut s (s.size - pos) pos).map (l ++ ·) = runesF s) ∧ wr.ownsRow w.heap.size 3 1 v l.length (icells l) ∧ Below w.heap.size w wr) (fun _ i _ => s.size - (intOf i).toNat)
  case atStart => exact ⟨0, [], rfl, Nat.zero_le _, Nat.le_refl _, by unfold Hid; rw [Nat.sub_zero]; simp [runesF], Hown.out, Hb.out⟩
  case round =>
    clear Hown Hb
    obtain ⟨pos, l, rfl, hle, hl, hr, hown, hbel⟩ := hrel
    by_cases hp : pos < s.size
    · have HA := Lib.hid (fun w => spec_at s pos w (by unfold maxLen; omega))
      unfold AtRes at HA
      by_cases ha : (atF s (pos : Int)).2 < 0
      · have HR := Lib.hid (res_none (cut_fail hp ha hr.out))
        clear hr
        generalize (atF s (pos : Int)) = x at HA ha
        clear hown
        go_wp2_with fail
        refine (HA.out _).mono ?_
        rintro e w3 ⟨rfl, hb3⟩
        clear HA
        have hbel3 := hbel.trans (hb3.mono hbel.size)
        go_wp2_with fail
        go_ret2
        refine ⟨.slice (some ⟨w3.heap.size, 0, none⟩) 0 0, by rw [HR.out.2]; rfl, ?_, hbel3.alloc hbel3.size _⟩
        rw [HR.out.1]
        exact World.ownsRow_lit w3 #[] 0 hbel3.size (by simp [maxLen]) rfl
      · obtain ⟨n, his, he⟩ := at_next ha
        have Hr := Lib.hid (cut_more his rfl hr.out)
        have hz := his.2.1
        have hpz := enc_pos n
        have hn : (n : Int) ≤ 1114111 := by have := his.1; unfold valid at this; omega
        have HA2 : Hid (∀ w, Calls Tryd.prog 21 #[.string s, .int .i64 pos] w fun e w' => e = .returned (.tuple #[.int .i64 (n : Int), .int .i64 ((pos + (enc n).length : Nat) : Int)]) ∧ Below w.heap.size w w') := by
          intro w
          have h := HA.out w
          rw [he] at h
          exact h
        clear HA ha he his hr
        generalize hk : pos + (enc n).length = q at Hr hz HA2
        have hpq : pos < q := by omega
        clear hk hpz
        go_wp2_with fail
        refine (HA2.out _).mono ?_
        rintro e w3 ⟨rfl, hb3⟩
        clear HA2
        have hown3 := own_below hown hb3
        have hbel3 := hbel.trans (hb3.mono hbel.size)
        clear hown hbel hb3
        go_wp2_with (first | (at_builtin; refine wpList_append_own _ rfl (.tmp 22) (.tmp 24) 26 rfl w.heap.size 3 i0 (.int .i64 0) 1 8 Tryd.underlying26 hi hz0 hz1 hz2 rfl (by decide) _ l.length _ rfl (hown3.alloc _) ⟨w3.heap.size, 0, none⟩ 1 1 [.int .i64 (n : Int)] rfl rfl (by exact lit_cells _ _ _) (iinfo.one_cell _) (by unfold maxLen; omega) (by omega) (by have := hbel3.size; simp; omega) ?_) | fail)
        intro v4 w4 hown4 hgr4 _
        have hbel4 : Below w.heap.size w w4 := (hbel3.alloc hbel3.size _).grown hgr4 (by have := hbel3.size; simp; omega) (fun b hb => (hown3.lt b hb).1)
        rw [iinfo.snoc] at hown4
        clear hown3 hbel3 hgr4
        go_wp2_with fail
        go_roundw
        case rel => exact ⟨q, l ++ [(n : Int)], rfl, hz, by simp; omega, Hr.out, by simpa using hown4, hbel4⟩
        case measure => simp [intOf]; omega
    · have HR := Lib.hid (res_some (cut_stop (by omega) hr.out))
      clear hr
      go_wp2_with fail
      go_ret2
      exact ⟨_, by rw [HR.out.2]; rfl, by rw [HR.out.1]; exact hown, hbel⟩

theorem spec_utf (s : ByteArray) (w : World) (hs : s.size ≤ 1048576) :
    Calls Tryd.prog 11 #[.string s] w fun e w' => e = .returned (.bool (okS s)) ∧ Below w.heap.size w w' := by
  have HR := Lib.hid (spec_runes s w hs)
  generalize okS s = b at HR ⊢
  go_enter Tryd.func11, Tryd.ntmps11
  go_wp2_with fail
  refine HR.out.mono ?_
  rintro e w1 ⟨v, rfl, _, hb⟩
  clear HR
  go_wp2_with fail
  go_ret
  exact ⟨rfl, hb⟩
end Go.Proofs.YtegpcjkcejijpaaDoor.rune
