/- impl.Unhex and spec.Unhex: both return the bytes whose digits the text is, else the empty string and false. -/
import Derived.Test.YtecbgflakidegaaRows
import Derived.Test.YtecbgflakidegaaBase
import Derived.Test.YtecbgflakidegaaShelf
import Derived.ProofKit
import Derived.OpenShut
namespace Go.Proofs.Ytecbgflakidegaa.unhex
open Go.ChangeShapes Go.WideShapes Go.ChangeAt Go.RowKit
set_option linter.unusedVariables false

/-- The value of a digit, -1 where the byte is none. -/
def valI (x : Int) : Int := if 48 ≤ x ∧ x ≤ 57 then x - 48 else if 97 ≤ x ∧ x ≤ 102 then x - 87 else -1
theorem valI_lt (x : Int) : -1 ≤ valI x ∧ valI x < 16 := by
  unfold valI
  split
  · omega
  · split <;> omega

/-- Byte i of s as a number. -/
def at_ (s : ByteArray) (i : Nat) : Int := ((s.data.toList.getD i 0).toNat : Int)
theorem at_eq (s : ByteArray) (i : Nat) (h : i < s.size) : (s[i].toNat : Int) = at_ s i := by
  unfold at_
  have h2 : i < s.data.toList.length := by simpa using h
  rw [List.getD_eq_getElem?_getD, List.getElem?_eq_getElem h2]
  rfl
theorem at_bd (s : ByteArray) (i : Nat) : 0 ≤ at_ s i ∧ at_ s i < 256 := by
  unfold at_
  have := (s.data.toList.getD i 0).toNat_lt
  omega
def okAt (s : ByteArray) (j : Nat) : Prop := 0 ≤ valI (at_ s (2 * j)) ∧ 0 ≤ valI (at_ s (2 * j + 1))
def byteAt (s : ByteArray) (j : Nat) : UInt8 := UInt8.ofNat (16 * valI (at_ s (2 * j)) + valI (at_ s (2 * j + 1))).toNat
def dec (s : ByteArray) (k : Nat) : List UInt8 := (List.range k).map (byteAt s)
theorem dec_length (s : ByteArray) (k : Nat) : (dec s k).length = k := by simp [dec]
theorem dec_succ (s : ByteArray) (k : Nat) (hk : okAt s k) : bcells (dec s (k + 1)) = bcells (dec s k) ++ [.int .u8 (16 * valI (at_ s (2 * k)) + valI (at_ s (2 * k + 1)))] := by
  unfold dec
  rw [List.range_succ, List.map_append, bcells_append]
  congr 1
  simp only [bcells, List.map_cons, List.map_nil, byteAt]
  congr 2
  have h1 := valI_lt (at_ s (2 * k))
  have h2 := valI_lt (at_ s (2 * k + 1))
  obtain ⟨h3, h4⟩ := hk
  simp
  omega

open Classical in
/-- What both functions return. -/
noncomputable def out (s : ByteArray) : Value :=
  if s.size ≤ 40000 ∧ s.size % 2 = 0 ∧ ∀ j, j < s.size / 2 → okAt s j then .tuple #[.string ⟨(dec s (s.size / 2)).toArray⟩, .bool true] else .tuple #[.string ⟨#[]⟩, .bool false]
theorem out_yes {s : ByteArray} (h1 : s.size ≤ 40000) (h2 : s.size % 2 = 0) (h3 : ∀ j, j < s.size / 2 → okAt s j) : out s = .tuple #[.string ⟨(dec s (s.size / 2)).toArray⟩, .bool true] := by
  unfold out; rw [if_pos ⟨h1, h2, h3⟩]
theorem out_no {s : ByteArray} (h : ¬ (s.size ≤ 40000 ∧ s.size % 2 = 0 ∧ ∀ j, j < s.size / 2 → okAt s j)) : out s = .tuple #[.string ⟨#[]⟩, .bool false] := by
  unfold out; rw [if_neg h]

theorem index_all : ∀ n : Fin 256, Lib.indexByte [48, 49, 50, 51, 52, 53, 54, 55, 56, 57, 97, 98, 99, 100, 101, 102] (UInt8.ofNat n.val) = valI (n.val : Int) := by decide +kernel

theorem index_any (x : Int) (w : World) (h0 : 0 ≤ x) (h1 : x < 256) :
    Calls Try.prog 20 #[.string ⟨#[48, 49, 50, 51, 52, 53, 54, 55, 56, 57, 97, 98, 99, 100, 101, 102]⟩, .int .u8 x] w fun e w' => e = .returned (.int .i64 (valI x)) ∧ w = w' := by
  refine (Try.strings_IndexByte _ x w).mono ?_
  rintro e w' ⟨rfl, rfl⟩
  have h := index_all ⟨x.toNat, by omega⟩
  refine ⟨ret_int ?_, rfl⟩
  have hx : ((x.toNat : Nat) : Int) = x := by omega
  simp only [hx] at h
  exact h

theorem value_any (x : Int) (w : World) (h0 : 0 ≤ x) (h1 : x < 256) :
    Calls Try.prog 19 #[.int .u8 x] w fun e w' => e = .returned (.int .i64 (valI x)) ∧ w = w' := by
  by_cases a1 : 48 ≤ x
  · by_cases a2 : x ≤ 57
    · have hv : valI x = x - 48 := by unfold valI; rw [if_pos ⟨a1, a2⟩]
      go_enter Try.func19, Try.ntmps19
      go_wp2
      go_ret
      exact ⟨ret_int hv.symm, rfl⟩
    · by_cases a3 : 97 ≤ x
      · by_cases a4 : x ≤ 102
        · have hv : valI x = x - 97 + 10 := by unfold valI; rw [if_neg (by omega), if_pos ⟨a3, a4⟩]; omega
          go_enter Try.func19, Try.ntmps19
          go_wp2
          go_ret
          exact ⟨rfl, rfl⟩
        · have hv : valI x = -1 := by unfold valI; rw [if_neg (by omega), if_neg (by omega)]
          go_enter Try.func19, Try.ntmps19
          go_wp2
          go_ret
          exact ⟨rfl, rfl⟩
      · have hv : valI x = -1 := by unfold valI; rw [if_neg (by omega), if_neg (by omega)]
        go_enter Try.func19, Try.ntmps19
        go_wp2
        go_ret
        exact ⟨rfl, rfl⟩
  · have hv : valI x = -1 := by unfold valI; rw [if_neg (by omega), if_neg (by omega)]
    go_enter Try.func19, Try.ntmps19
    go_wp2
    go_ret
    exact ⟨rfl, rfl⟩

theorem Tryinfo : (Try.prog.info? 5).map (fun i => (i.zero, i.size, i.bytes)) = some (some (.int .u8 0), 1, 1) := by kernel_rfl

theorem spec_any (s : ByteArray) (w : World) (hs : s.size ≤ maxLen) :
    Calls Try.prog 9 #[.string s] w fun e w' => e = .returned (out s) ∧ Below w.heap.size w w' := by
  unfold maxLen at hs
  by_cases h1 : 40000 < s.size
  · have Ho := Lib.hid (out_no (s := s) (by omega))
    go_enter Try.func9, Try.ntmps9
    go_wp2
    go_ret2
    exact ⟨by rw [Ho.out]; rfl, Below.refl _ _⟩
  by_cases h2 : s.size % 2 = 0
  case neg =>
    have Ho := Lib.hid (out_no (s := s) (by omega))
    have hb : ((s.size : Int) % 2 != 0) = true := by rw [bne_iff_ne]; omega
    go_enter Try.func9, Try.ntmps9
    go_wp2
    go_ret2
    exact ⟨by rw [Ho.out]; rfl, Below.refl _ _⟩
  have h1' : s.size ≤ 40000 := by omega
  have hb : ((s.size : Int) % 2 != 0) = false := by rw [bne_eq_false_iff_eq]; omega
  have H2 := Lib.hid h2
  clear h2 h1
  obtain ⟨i0, hi, hz0, hz1, hz2⟩ := info_parts Tryinfo
  go_enter Try.func9, Try.ntmps9
  go_wp2_with fail
  have hown1 : (w.alloc (.cells #[] 5)).ownsRow w.heap.size 5 1 (.slice (some ⟨w.heap.size, 0, none⟩) 0 0) 0 (bcells (dec s 0)) := World.ownsRow_lit w #[] 0 (Nat.le_refl _) (by simp [maxLen]) rfl
  have hb1 : Below w.heap.size w (w.alloc (.cells #[] 5)) := (Below.refl _ _).alloc (Nat.le_refl _) _
  go_loopw [4, 5] (fun v i wr => ∃ k : Nat, 2 * k ≤ s.size ∧ i = .int .i64 (2 * (k : Int)) ∧ wr.ownsRow w.heap.size 5 1 v k (bcells (dec s k)) ∧ (∀ j, j < k → okAt s j) ∧ Below w.heap.size w wr) (fun _ i _ => s.size - (intOf i).toNat)
  case atStart => exact ⟨0, Nat.zero_le _, rfl, hown1, fun j hj => by omega, hb1⟩
  case round =>
    clear hown1 hb1
    obtain ⟨k, hk, rfl, hown, hok, hbel⟩ := hrel
    have Hok := Lib.hid hok
    clear hok
    by_cases hlt : 2 * k < s.size
    · have hpar : 2 * k + 1 < s.size := by have := H2.out; omega
      have ha1 := at_eq s (2 * k) hlt
      have ha2 := at_eq s (2 * k + 1) hpar
      have hd1 := at_bd s (2 * k)
      have hd2 := at_bd s (2 * k + 1)
      have hv1 := valI_lt (at_ s (2 * k))
      have hv2 := valI_lt (at_ s (2 * k + 1))
      by_cases o1 : 0 ≤ valI (at_ s (2 * k))
      case neg =>
        have Ho := Lib.hid (out_no (s := s) (fun h => o1 ((h.2.2 k (by omega)).1)))
        clear H2
        go_wp2_with (go_at_call 19; refine (value_any _ _ (by omega) (by omega)).mono ?_; rintro e w' ⟨rfl, rfl⟩)
        go_ret2
        exact ⟨by rw [Ho.out]; rfl, hbel⟩
      by_cases o2 : 0 ≤ valI (at_ s (2 * k + 1))
      case neg =>
        have Ho := Lib.hid (out_no (s := s) (fun h => o2 ((h.2.2 k (by omega)).2)))
        clear H2
        go_wp2_with (go_at_call 19; refine (value_any _ _ (by omega) (by omega)).mono ?_; rintro e w' ⟨rfl, rfl⟩)
        go_ret2
        exact ⟨by rw [Ho.out]; rfl, hbel⟩
      have Hs := Lib.hid (dec_succ s k ⟨o1, o2⟩)
      go_wp2_with (first | (go_at_call 19; refine (value_any _ _ (by omega) (by omega)).mono ?_; rintro e w' ⟨rfl, rfl⟩) | (at_builtin; refine wpList_append_own _ rfl (.tmp 39) (.tmp 45) 32 rfl w.heap.size 5 i0 (.int .u8 0) 1 1 Try.underlying32 hi hz0 hz1 hz2 rfl (by decide) _ k _ rfl (hown.alloc _) ⟨wr.heap.size, 0, none⟩ 1 1 [.int .u8 (16 * valI (at_ s (2 * k)) + valI (at_ s (2 * k + 1)))] rfl rfl (by exact lit_cells _ _ _) (by intro u hu; simp at hu; subst hu; rfl) (by unfold maxLen; omega) (by omega) (by have := hbel.size; simp; omega) ?_))
      intro v2 w2 hown2 hg2 _
      have hbel2 : Below w.heap.size w w2 := (hbel.alloc hbel.size _).grown hg2 (by have := hbel.size; simp; omega) (fun b hb => (hown.lt b hb).1)
      have hok2 : ∀ j, j < k + 1 → okAt s j := by
        intro j hj
        by_cases e : j = k
        · subst e; exact ⟨o1, o2⟩
        · exact Hok.out j (by omega)
      have Hok2 := Lib.hid hok2
      clear hown hbel hok2 hg2 ha1 ha2
      go_wp2_with fail
      go_roundw
      case rel => exact ⟨k + 1, by omega, by go_num, by rw [Hs.out]; exact hown2, Hok2.out, hbel2⟩
      case measure => simp [intOf]; omega
    · have hkk : k = s.size / 2 := by have := H2.out; omega
      have Ho := Lib.hid (out_yes h1' H2.out (fun j hj => Hok.out j (by omega)))
      have hconv := run_convert_own (P := Try.prog) wr 32 5 9 Try.underlying32 Try.underlying5 Try.underlying9 w.heap.size u4 (dec s (s.size / 2)) (by
        show wr.ownsRow _ _ _ _ (dec s (s.size / 2)).length _
        rw [dec_length, ← hkk]; exact hown)
      clear hkk hown H2
      go_wp2_with fail
      go_ret2
      exact ⟨by rw [Ho.out]; rfl, hbel⟩
theorem impl_any (s : ByteArray) (w : World) (hs : s.size ≤ maxLen) :
    Calls Try.prog 10 #[.string s] w fun e w' => e = .returned (out s) ∧ Below w.heap.size w w' := by
  unfold maxLen at hs
  by_cases h1 : 40000 < s.size
  · have Ho := Lib.hid (out_no (s := s) (by omega))
    go_enter Try.func10, Try.ntmps10
    go_wp2
    go_ret2
    exact ⟨by rw [Ho.out]; rfl, Below.refl _ _⟩
  by_cases h2 : s.size % 2 = 0
  case neg =>
    have Ho := Lib.hid (out_no (s := s) (by omega))
    have hb : ((s.size : Int) % 2 != 0) = true := by rw [bne_iff_ne]; omega
    go_enter Try.func10, Try.ntmps10
    go_wp2
    go_ret2
    exact ⟨by rw [Ho.out]; rfl, Below.refl _ _⟩
  have h1' : s.size ≤ 40000 := by omega
  have hb : ((s.size : Int) % 2 != 0) = false := by rw [bne_eq_false_iff_eq]; omega
  have H2 := Lib.hid h2
  clear h2 h1
  obtain ⟨i0, hi, hz0, hz1, hz2⟩ := info_parts Tryinfo
  go_enter Try.func10, Try.ntmps10
  go_wp2_with (first | (at_make; refine wpList_make_own _ rfl _ _ 32 rfl w.heap.size 5 i0 (.int .u8 0) 1 Try.underlying32 hi hz0 hz1 _ _ _ (s.size / 2) rfl rfl (by omega) ?c1 ?c2 ?c3 ?_) | fail)
  case c1 => rw [hz2]; omega
  case c2 => unfold maxLen; omega
  case c3 => exact Nat.le_refl _
  intro w1 hown1 hg1
  have hb1 : Below w.heap.size w w1 := (Below.refl _ _).grown hg1 (Nat.le_refl _) (fun k hk => by cases hk)
  clear hg1
  go_wp2_with fail
  go_loopw [4, 5] (fun v i wr => ∃ k : Nat, 2 * k ≤ s.size ∧ i = .int .i64 (2 * (k : Int)) ∧ wr.ownsRow w.heap.size 5 1 v k (bcells (dec s k)) ∧ (∀ j, j < k → okAt s j) ∧ Below w.heap.size w wr) (fun _ i _ => s.size - (intOf i).toNat)
  case atStart => exact ⟨0, Nat.zero_le _, rfl, hown1, fun j hj => by omega, hb1⟩
  case round =>
    clear hown1 hb1
    obtain ⟨k, hk, rfl, hown, hok, hbel⟩ := hrel
    have Hok := Lib.hid hok
    clear hok
    by_cases hlt : 2 * k < s.size
    · have hpar : 2 * k + 1 < s.size := by have := H2.out; omega
      have ha1 := at_eq s (2 * k) hlt
      have ha2 := at_eq s (2 * k + 1) hpar
      have hd1 := at_bd s (2 * k)
      have hd2 := at_bd s (2 * k + 1)
      have hv1 := valI_lt (at_ s (2 * k))
      have hv2 := valI_lt (at_ s (2 * k + 1))
      by_cases o1 : 0 ≤ valI (at_ s (2 * k))
      case neg =>
        have Ho := Lib.hid (out_no (s := s) (fun h => o1 ((h.2.2 k (by omega)).1)))
        clear H2
        go_wp2_with (go_at_call 20; refine (index_any _ _ (by omega) (by omega)).mono ?_; rintro e w' ⟨rfl, rfl⟩)
        go_ret2
        exact ⟨by rw [Ho.out]; rfl, hbel⟩
      by_cases o2 : 0 ≤ valI (at_ s (2 * k + 1))
      case neg =>
        have Ho := Lib.hid (out_no (s := s) (fun h => o2 ((h.2.2 k (by omega)).2)))
        clear H2
        go_wp2_with (go_at_call 20; refine (index_any _ _ (by omega) (by omega)).mono ?_; rintro e w' ⟨rfl, rfl⟩)
        go_ret2
        exact ⟨by rw [Ho.out]; rfl, hbel⟩
      have Hs := Lib.hid (dec_succ s k ⟨o1, o2⟩)
      go_wp2_with (first | (go_at_call 20; refine (index_any _ _ (by omega) (by omega)).mono ?_; rintro e w' ⟨rfl, rfl⟩) | (at_builtin; refine wpList_append_own _ rfl (.tmp 42) (.tmp 48) 32 rfl w.heap.size 5 i0 (.int .u8 0) 1 1 Try.underlying32 hi hz0 hz1 hz2 rfl (by decide) _ k _ rfl (hown.alloc _) ⟨wr.heap.size, 0, none⟩ 1 1 [.int .u8 (16 * valI (at_ s (2 * k)) + valI (at_ s (2 * k + 1)))] rfl rfl (by exact lit_cells _ _ _) (by intro u hu; simp at hu; subst hu; rfl) (by unfold maxLen; omega) (by omega) (by have := hbel.size; simp; omega) ?_))
      intro v2 w2 hown2 hg2 _
      have hbel2 : Below w.heap.size w w2 := (hbel.alloc hbel.size _).grown hg2 (by have := hbel.size; simp; omega) (fun b hb => (hown.lt b hb).1)
      have hok2 : ∀ j, j < k + 1 → okAt s j := by
        intro j hj
        by_cases e : j = k
        · subst e; exact ⟨o1, o2⟩
        · exact Hok.out j (by omega)
      have Hok2 := Lib.hid hok2
      clear hown hbel hok2 hg2 ha1 ha2
      go_wp2_with fail
      go_roundw
      case rel => exact ⟨k + 1, by omega, by go_num, by rw [Hs.out]; exact hown2, Hok2.out, hbel2⟩
      case measure => simp [intOf]; omega
    · have hkk : k = s.size / 2 := by have := H2.out; omega
      have Ho := Lib.hid (out_yes h1' H2.out (fun j hj => Hok.out j (by omega)))
      have hconv := run_convert_own (P := Try.prog) wr 32 5 9 Try.underlying32 Try.underlying5 Try.underlying9 w.heap.size u4 (dec s (s.size / 2)) (by
        show wr.ownsRow _ _ _ _ (dec s (s.size / 2)).length _
        rw [dec_length, ← hkk]; exact hown)
      clear hkk hown H2
      go_wp2_with fail
      go_ret2
      exact ⟨by rw [Ho.out]; rfl, hbel⟩
end Go.Proofs.Ytecbgflakidegaa.unhex
