/- impl.Unhex. -/
import Derived.Test.YtmknkpoihnpnkaaDoorUnhexM
import Derived.Test.YtmknkpoihnpnkaaDoorShelf
namespace Go.Proofs.YtmknkpoihnpnkaaDoor.unhex
open Go.ChangeShapes Go.WideShapes Go.ChangeAt Go.RowKit
set_option linter.unusedVariables false

theorem index_all : ∀ n : Fin 256, Lib.indexByte [48, 49, 50, 51, 52, 53, 54, 55, 56, 57, 97, 98, 99, 100, 101, 102] (UInt8.ofNat n.val) = valI (n.val : Int) := by decide +kernel

theorem index_any (x : Int) (w : World) (h0 : 0 ≤ x) (h1 : x < 256) :
    Calls Tryd.prog 32 #[.string ⟨#[48, 49, 50, 51, 52, 53, 54, 55, 56, 57, 97, 98, 99, 100, 101, 102]⟩, .int .u8 x] w fun e w' => e = .returned (.int .i64 (valI x)) ∧ w = w' := by
  refine (Tryd.strings_IndexByte _ x w).mono ?_
  rintro e w' ⟨rfl, rfl⟩
  have h := index_all ⟨x.toNat, by omega⟩
  refine ⟨ret_int ?_, rfl⟩
  have hx : ((x.toNat : Nat) : Int) = x := by omega
  simp only [hx] at h
  exact h

theorem impl_any (s : ByteArray) (w : World) (hs : s.size ≤ maxLen) :
    Calls Tryd.prog 22 #[.string s] w fun e w' => e = .returned (out s) ∧ Below w.heap.size w w' := by
  unfold maxLen at hs
  by_cases h1 : 40000 < s.size
  · have Ho := Lib.hid (out_no (s := s) (by omega))
    go_enter Tryd.func22, Tryd.ntmps22
    go_wp2
    go_ret2
    exact ⟨by rw [Ho.out]; rfl, Below.refl _ _⟩
  by_cases h2 : s.size % 2 = 0
  case neg =>
    have Ho := Lib.hid (out_no (s := s) (by omega))
    have hb : ((s.size : Int) % 2 != 0) = true := by rw [bne_iff_ne]; omega
    go_enter Tryd.func22, Tryd.ntmps22
    go_wp2
    go_ret2
    exact ⟨by rw [Ho.out]; rfl, Below.refl _ _⟩
  have h1' : s.size ≤ 40000 := by omega
  have hb : ((s.size : Int) % 2 != 0) = false := by rw [bne_eq_false_iff_eq]; omega
  have H2 := Lib.hid h2
  clear h2 h1
  obtain ⟨i0, hi, hz0, hz1, hz2⟩ := info_parts Trydinfo
  go_enter Tryd.func22, Tryd.ntmps22
  go_wp2_with (first | (at_make; refine wpList_make_own _ rfl _ _ 22 rfl w.heap.size 5 i0 (.int .u8 0) 1 Tryd.underlying22 hi hz0 hz1 _ _ _ (s.size / 2) rfl rfl (by omega) ?c1 ?c2 ?c3 ?_) | fail)
  case c1 => rw [hz2]; omega
  case c2 => unfold maxLen; omega
  case c3 => exact Nat.le_refl _
  intro w1 hown1 hg1
  have hb1 : Below w.heap.size w w1 := (Below.refl _ _).grown hg1 (Nat.le_refl _) (fun k hk => by cases hk)
  clear hg1
  go_wp2_with fail
  go_loopw [4, 5] (fun v i wr => ∃ k : Nat, 2 * k ≤ s.size ∧ i = .int .i64 (2 * (k : Int)) ∧ wr.ownsRow w.heap.size 5 1 v k (bcells (dec s k)) ∧ (∀ j, j < k → okAt s j) ∧ Below w.heap.size w wr) (fun _ i _ => s.size - (intOf i).toNat)
  case atStart => exact ⟨0, Nat.zero_le _, rfl, hown1, fun j hj => by omega, hb1⟩
  case round =>
    clear hown1 hb1
    obtain ⟨k, hk, rfl, hown, hok, hbel⟩ := hrel
    have Hok := Lib.hid hok
    clear hok
    by_cases hlt : 2 * k < s.size
    · have hpar : 2 * k + 1 < s.size := by have := H2.out; omega
      have ha1 := at_eq s (2 * k) hlt
      have ha2 := at_eq s (2 * k + 1) hpar
      have hd1 := at_bd s (2 * k)
      have hd2 := at_bd s (2 * k + 1)
      have hv1 := valI_lt (at_ s (2 * k))
      have hv2 := valI_lt (at_ s (2 * k + 1))
      by_cases o1 : 0 ≤ valI (at_ s (2 * k))
      case neg =>
        have Ho := Lib.hid (out_no (s := s) (fun h => o1 ((h.2.2 k (by omega)).1)))
        clear H2
        go_wp2_with (go_at_call 32; refine (index_any _ _ (by omega) (by omega)).mono ?_; rintro e w' ⟨rfl, rfl⟩)
        go_ret2
        exact ⟨by rw [Ho.out]; rfl, hbel⟩
      by_cases o2 : 0 ≤ valI (at_ s (2 * k + 1))
      case neg =>
        have Ho := Lib.hid (out_no (s := s) (fun h => o2 ((h.2.2 k (by omega)).2)))
        clear H2
        go_wp2_with (go_at_call 32; refine (index_any _ _ (by omega) (by omega)).mono ?_; rintro e w' ⟨rfl, rfl⟩)
        go_ret2
        exact ⟨by rw [Ho.out]; rfl, hbel⟩
      have Hs := Lib.hid (dec_succ s k ⟨o1, o2⟩)
      go_wp2_with (first | (go_at_call 32; refine (index_any _ _ (by omega) (by omega)).mono ?_; rintro e w' ⟨rfl, rfl⟩) | (at_builtin; refine wpList_append_own _ rfl (.tmp 42) (.tmp 48) 22 rfl w.heap.size 5 i0 (.int .u8 0) 1 1 Tryd.underlying22 hi hz0 hz1 hz2 rfl (by decide) _ k _ rfl (hown.alloc _) ⟨wr.heap.size, 0, none⟩ 1 1 [.int .u8 (16 * valI (at_ s (2 * k)) + valI (at_ s (2 * k + 1)))] rfl rfl (by exact lit_cells _ _ _) (by intro u hu; simp at hu; subst hu; rfl) (by unfold maxLen; omega) (by omega) (by have := hbel.size; simp; omega) ?_))
      intro v2 w2 hown2 hg2 _
      have hbel2 : Below w.heap.size w w2 := (hbel.alloc hbel.size _).grown hg2 (by have := hbel.size; simp; omega) (fun b hb => (hown.lt b hb).1)
      have hok2 : ∀ j, j < k + 1 → okAt s j := by
        intro j hj
        by_cases e : j = k
        · subst e; exact ⟨o1, o2⟩
        · exact Hok.out j (by omega)
      have Hok2 := Lib.hid hok2
      clear hown hbel hok2 hg2 ha1 ha2
      go_wp2_with fail
      go_roundw
      case rel => exact ⟨k + 1, by omega, by go_num, by rw [Hs.out]; exact hown2, Hok2.out, hbel2⟩
      case measure => simp [intOf]; omega
    · have hkk : k = s.size / 2 := by have := H2.out; omega
      have Ho := Lib.hid (out_yes h1' H2.out (fun j hj => Hok.out j (by omega)))
      have hconv := run_convert_own (P := Tryd.prog) wr 22 5 9 Tryd.underlying22 Tryd.underlying5 Tryd.underlying9 w.heap.size u4 (dec s (s.size / 2)) (by
        show wr.ownsRow _ _ _ _ (dec s (s.size / 2)).length _
        rw [dec_length, ← hkk]; exact hown)
      clear hkk hown H2
      go_wp2_with fail
      go_ret2
      exact ⟨by rw [Ho.out]; rfl, hbel⟩
end Go.Proofs.YtmknkpoihnpnkaaDoor.unhex
