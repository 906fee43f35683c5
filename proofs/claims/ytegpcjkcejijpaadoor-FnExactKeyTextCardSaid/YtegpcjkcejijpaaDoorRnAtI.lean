/- impl.RuneAt, impl.beginsRune, where unicode/utf8's two tables hold what their text lays. -/
import Derived.Test.YtegpcjkcejijpaaDoorShelf
import Derived.Test.YtegpcjkcejijpaaDoorRuneM
import Derived.Test.YtegpcjkcejijpaaDoorRows
import Derived.ProofKit
import Derived.OpenShut
import Derived.Lib.LaidTab
namespace Go.Proofs.YtegpcjkcejijpaaDoor.rune
open Go.ChangeShapes Go.WideShapes Go.ChangeAt Go.RowKit
set_option linter.unusedVariables false

/-- The tables. -/
def Tabs (w : World) : Prop := Lib.Utf8Tabs 1 2 w
theorem Tabs.below {w w' : World} (h : Tabs w) (hb : Below w.heap.size w w') : Tabs w' := Utf8Tabs_below h hb
/-- What DecodeRuneInString hands back, of what lies behind place p. -/
theorem lib_decode (s : ByteArray) (p : Nat) (hp : p < s.size) (w : World) (hT : Tabs w) :
    Calls Tryd.prog 48 #[.string (s.extract p s.size)] w fun e w' => e = .returned (.tuple #[.int .i32 (Utf8.decode s p).1, .int .i64 (Utf8.decode s p).2]) ∧ Below w.heap.size w w' := by
  have h := Tryd.utf8_DecodeRuneInString (s.extract p s.size) w hT
  have hz : ¬ (s.extract p s.size).size = 0 := by rw [ByteArray.size_extract]; omega
  unfold Lib.decodeGo at h
  rw [if_neg hz, decode_behind s p (by omega)] at h
  exact h

theorem impl_at_out (s : ByteArray) (a : Int) (w : World) (hs : s.size ≤ maxLen) (h : ¬ (0 ≤ a ∧ a < s.size)) :
    Calls Tryd.prog 44 #[.string s, .int .i64 a] w fun e w' => e = .returned (.tuple #[.int .i64 (atF s a).1, .int .i64 (atF s a).2]) ∧ Below w.heap.size w w' := by
  unfold maxLen at hs
  have Hr := Lib.hid (at_out h)
  rw [Hr.out]
  clear Hr
  by_cases h1 : a < 0
  · clear h
    go_enter Tryd.func44, Tryd.ntmps44
    go_wp2_with fail
    go_ret2
    exact ⟨rfl, Below.refl _ _⟩
  · have h2 : (s.size : Int) ≤ a := by omega
    clear h
    go_enter Tryd.func44, Tryd.ntmps44
    go_wp2_with fail
    go_ret2
    exact ⟨rfl, Below.refl _ _⟩
theorem impl_at_in (s : ByteArray) (p : Nat) (w : World) (hs : s.size ≤ maxLen) (hp : p < s.size) (hT : Tabs w) :
    Calls Tryd.prog 44 #[.string s, .int .i64 p] w fun e w' => e = .returned (.tuple #[.int .i64 (atF s p).1, .int .i64 (atF s p).2]) ∧ Below w.heap.size w w' := by
  unfold maxLen at hs
  have HD := Lib.hid (lib_decode s p hp w hT)
  have hle := decode_le s p
  clear hT
  rcases at_decode s p hp with ⟨e, hr⟩ | ⟨hr, hne, his⟩
  · have Hr := Lib.hid hr
    rw [Hr.out]
    rw [e] at HD
    clear hr e hle
    go_enter Tryd.func44, Tryd.ntmps44
    go_wp2_with fail
    refine HD.out.mono ?_
    rintro e w1 ⟨rfl, hb⟩
    clear HD
    go_wp2_with fail
    go_ret2
    exact ⟨rfl, hb⟩
  · have Hr := Lib.hid hr
    rw [Hr.out]
    have hend := his.2.1
    have hsz : (Utf8.decode s p).2 ≤ 4 ∧ p + (Utf8.decode s p).2 ≤ s.size := by
      rcases decode_is s p hp with ⟨_, e⟩ | ⟨e, _⟩
      · rw [e]; exact ⟨enc_le _, hend⟩
      · exact absurd e hne
    clear hr his hend Hr
    generalize hd : Utf8.decode s p = d at *
    obtain ⟨r, k⟩ := d
    simp only at HD hle hsz ⊢
    by_cases hk : r = 65533 ∧ k = 1
    · exact absurd (by rw [hk.1, hk.2]) hne
    clear hne hd
    by_cases hr2 : r = 65533
    · subst hr2
      have hk1 : ((k : Int) == 1) = false := by simp; omega
      clear hk
      go_enter Tryd.func44, Tryd.ntmps44
      go_wp2_with fail
      refine HD.out.mono ?_
      rintro e w1 ⟨rfl, hb⟩
      clear HD
      go_wp2_with fail
      go_ret2
      exact ⟨by simp, hb⟩
    · have hk1 : ((r : Int) == 65533) = false := by simp; omega
      clear hk
      go_enter Tryd.func44, Tryd.ntmps44
      go_wp2_with fail
      refine HD.out.mono ?_
      rintro e w1 ⟨rfl, hb⟩
      clear HD
      go_wp2_with fail
      go_ret2
      exact ⟨by simp, hb⟩
theorem impl_at (s : ByteArray) (a : Int) (w : World) (hs : s.size ≤ maxLen) (hT : Tabs w) :
    Calls Tryd.prog 44 #[.string s, .int .i64 a] w fun e w' => e = .returned (.tuple #[.int .i64 (atF s a).1, .int .i64 (atF s a).2]) ∧ Below w.heap.size w w' := by
  by_cases h : 0 ≤ a ∧ a < s.size
  · obtain ⟨p, rfl⟩ := Int.eq_ofNat_of_zero_le h.1
    exact impl_at_in s p w hs (by omega) hT
  · exact impl_at_out s a w hs h
end Go.Proofs.YtegpcjkcejijpaaDoor.rune
