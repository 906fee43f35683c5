/- impl.PartsOf and spec.PartsOf: both return the fields of a line, or an empty slice and false. -/
import Derived.Test.YtecbgflakidegaaRows
import Derived.Test.YtecbgflakidegaaBase
import Derived.ProofKit
import Derived.OpenShut
import Derived.WalkMore
namespace Go.Proofs.Ytecbgflakidegaa.parts
open Go.ChangeShapes Go.WideShapes Go.ChangeAt Go.RowKit
set_option linter.unusedVariables false

/-- Behind k bytes: where the open field begins, and the fields so far. The end of the line counts as a space. -/
def st (s : ByteArray) : Nat → Nat × List ByteArray
  | 0 => (0, [])
  | k + 1 => if k = s.size ∨ at_ s k = 32 then (k + 1, if (st s k).1 < k then (st s k).2 ++ [s.extract (st s k).1 k] else (st s k).2) else st s k
theorem st_bd (s : ByteArray) (k : Nat) : (st s k).1 ≤ k ∧ (st s k).2.length ≤ k := by
  induction k with
  | zero => simp [st]
  | succ k ih =>
    simp only [st]
    split
    · refine ⟨Nat.le_refl _, ?_⟩
      split
      · simp; omega
      · show (st s k).2.length ≤ k + 1; omega
    · omega
theorem st_no {s : ByteArray} {k b : Nat} {l : List ByteArray} (h : st s k = (b, l)) (h1 : k < s.size) (h2 : at_ s k ≠ 32) : st s (k + 1) = (b, l) := by
  simp only [st]; rw [if_neg (by omega)]; exact h
theorem st_add {s : ByteArray} {k b : Nat} {l : List ByteArray} (h : st s k = (b, l)) (h1 : k = s.size ∨ at_ s k = 32) (h2 : b < k) : st s (k + 1) = (k + 1, l ++ [s.extract b k]) := by
  simp only [st]; rw [if_pos h1, h]; simp [h2]
theorem st_skip {s : ByteArray} {k b : Nat} {l : List ByteArray} (h : st s k = (b, l)) (h1 : k = s.size ∨ at_ s k = 32) (h2 : ¬ b < k) : st s (k + 1) = (k + 1, l) := by
  simp only [st]; rw [if_pos h1, h]; simp [h2]

def fin (s : ByteArray) : List ByteArray := (st s (s.size + 1)).2
def good (s : ByteArray) : Prop := s.size ≤ 600 ∧ (∀ j, j < s.size → 32 ≤ at_ s j ∧ at_ s j ≤ 126) ∧ (fin s).length ≤ 12
open Classical in
noncomputable def flag (s : ByteArray) : Bool := decide (good s)
open Classical in
noncomputable def res (s : ByteArray) : List ByteArray := if good s then fin s else []
theorem flag_no {s : ByteArray} (h : ¬ good s) : flag s = false := by simp [flag, h]
theorem res_no {s : ByteArray} (h : ¬ good s) : res s = [] := by simp [res, h]
theorem flag_yes {s : ByteArray} (h : good s) : flag s = true := by simp [flag, h]
theorem res_yes {s : ByteArray} (h : good s) : res s = fin s := by simp [res, h]
theorem res_le (s : ByteArray) : (res s).length ≤ 12 := by
  by_cases h : good s
  · rw [res_yes h]; exact h.2.2
  · rw [res_no h]; simp

/-- What both functions leave: a slice of the call's own that reads as the fields, and the flag. -/
def Post (s : ByteArray) (w : World) (e : Ending) (w' : World) : Prop :=
  ∃ v : Value, e = .returned (.tuple #[v, .bool (flag s)]) ∧ w'.ownsRow w.heap.size 9 1 v (res s).length (scells (res s)) ∧ Below w.heap.size w w'
theorem post_no {s : ByteArray} {w w' : World} {e : Ending} (h : ¬ good s) (v : Value) (he : e = .returned (.tuple #[v, .bool false])) (hv : w'.ownsRow w.heap.size 9 1 v 0 []) (hb : Below w.heap.size w w') : Post s w e w' :=
  ⟨v, by rw [flag_no h]; exact he, by rw [res_no h]; exact hv, hb⟩
theorem post_yes {s : ByteArray} {w w' : World} {e : Ending} (h : good s) (v : Value) (he : e = .returned (.tuple #[v, .bool true])) (hv : w'.ownsRow w.heap.size 9 1 v (fin s).length (scells (fin s))) (hb : Below w.heap.size w w') : Post s w e w' :=
  ⟨v, by rw [flag_yes h]; exact he, by rw [res_yes h]; exact hv, hb⟩

theorem TryinfoS : (Try.prog.info? 9).map (fun i => (i.zero, i.size, i.bytes)) = some (some (.string ⟨#[]⟩), 1, 16) := by kernel_rfl

theorem spec_any (s : ByteArray) (w : World) (hs : s.size ≤ maxLen) :
    Calls Try.prog 11 #[.string s] w (Post s w) := by
  unfold maxLen at hs
  by_cases h1 : 600 < s.size
  · have hP : ∀ e w', _ := fun e w' => post_no (s := s) (w := w) (w' := w') (e := e) (fun h => by have := h.1; omega)
    go_enter Try.func11, Try.ntmps11
    go_wp2_with fail
    go_ret2
    exact hP _ _ _ rfl (World.ownsRow_lit w #[] 0 (Nat.le_refl _) (by simp [maxLen]) rfl) ((Below.refl _ _).alloc (Nat.le_refl _) _)
  obtain ⟨i0, hi, hz0, hz1, hz2⟩ := info_parts TryinfoS
  have h1' : s.size ≤ 600 := by omega
  clear h1
  go_enter Try.func11, Try.ntmps11
  go_wp2_with fail
  have hown1 : (w.alloc (.cells #[] 9)).ownsRow w.heap.size 9 1 (.slice (some ⟨w.heap.size, 0, none⟩) 0 0) 0 (scells []) := World.ownsRow_lit w #[] 0 (Nat.le_refl _) (by simp [maxLen]) rfl
  have hb1 : Below w.heap.size w (w.alloc (.cells #[] 9)) := (Below.refl _ _).alloc (Nat.le_refl _) _
  go_loopw [4, 5, 6] (fun v a i wr => ∃ (k b : Nat) (l : List ByteArray), k ≤ s.size + 1 ∧ i = .int .i64 k ∧ a = .int .i64 b ∧ wr.ownsRow w.heap.size 9 1 v l.length (scells l) ∧ Hid (st s k = (b, l)) ∧ b ≤ k ∧ l.length ≤ k ∧ Hid (∀ j, j < k → j < s.size → 32 ≤ at_ s j ∧ at_ s j ≤ 126) ∧ Below w.heap.size w wr) (fun _ _ i _ => s.size + 1 - (intOf i).toNat)
  case atStart => exact ⟨0, 0, [], Nat.zero_le _, rfl, rfl, hown1, rfl, Nat.le_refl _, Nat.le_refl _, fun j hj => by omega, hb1⟩
  case round =>
    clear hown1 hb1
    obtain ⟨k, b, l, hk, rfl, rfl, hown, hst, hbk, hlk, hall, hbel⟩ := hrel
    by_cases hlt : k < s.size
    · have ha := at_eq s k hlt
      have hd := at_bd s k
      by_cases c1 : at_ s k < 32
      · have hP : ∀ e w', _ := fun e w' => post_no (s := s) (w := w) (w' := w') (e := e) (fun h => by have := h.2.1 k hlt; omega)
        have HP := Lib.hid hP
        clear hP
        go_wp2_with fail
        go_ret2
        exact HP.out _ _ _ rfl ((World.ownsRow_lit wr #[] 0 hbel.size (by simp [maxLen]) rfl)) (hbel.alloc hbel.size _)
      by_cases c2 : 126 < at_ s k
      · have hP : ∀ e w', _ := fun e w' => post_no (s := s) (w := w) (w' := w') (e := e) (fun h => by have := h.2.1 k hlt; omega)
        have HP := Lib.hid hP
        clear hP
        go_wp2_with fail
        go_ret2
        exact HP.out _ _ _ rfl ((World.ownsRow_lit wr #[] 0 hbel.size (by simp [maxLen]) rfl)) (hbel.alloc hbel.size _)
      have Hall : Hid (∀ j, j < k + 1 → j < s.size → 32 ≤ at_ s j ∧ at_ s j ≤ 126) := fun j hj hs => by
        by_cases e : j = k
        · subst e; omega
        · exact hall.out j (by omega) hs
      by_cases c3 : at_ s k = 32
      · have Hc := Lib.hid c3
        have c4 : (at_ s k != 32) = false := by rw [bne_eq_false_iff_eq]; exact c3
        clear c3
        by_cases hbk2 : b < k
        · have Hs := Lib.hid (st_add hst.out (.inr Hc.out) hbk2)
          go_wp2_with (at_builtin; refine wpList_append_own _ rfl (.tmp 48) (.tmp 53) 25 rfl w.heap.size 9 i0 (.string ⟨#[]⟩) 1 16 Try.underlying25 hi hz0 hz1 hz2 rfl (by decide) _ l.length _ rfl (hown.alloc _) ⟨wr.heap.size, 0, none⟩ 1 1 (scells [s.extract b k]) rfl rfl (by exact lit_cells _ _ _) (by intro u hu; simp [scells] at hu; subst hu; rfl) (by unfold maxLen; omega) (by omega) (by have := hbel.size; simp; omega) ?_)
          intro v2 w2 hown2 hg2 _
          have hbel2 : Below w.heap.size w w2 := (hbel.alloc hbel.size _).grown hg2 (by have := hbel.size; simp; omega) (fun b hb => (hown.lt b hb).1)
          clear hown hbel hg2 ha c4
          go_wp2_with fail
          go_roundw
          case rel => exact ⟨k + 1, k + 1, l ++ [s.extract b k], by omega, by go_num, by go_num, by rw [scells_append, List.length_append]; exact hown2, Hs, Nat.le_refl _, by simp; omega, Hall, hbel2⟩
          case measure => simp [intOf]; omega
        · have Hs := Lib.hid (st_skip hst.out (.inr Hc.out) hbk2)
          go_wp2_with fail
          go_roundw
          case rel => exact ⟨k + 1, k + 1, l, by omega, by go_num, by go_num, hown, Hs, Nat.le_refl _, by omega, Hall, hbel⟩
          case measure => simp [intOf]; omega
      · have Hs := Lib.hid (st_no hst.out hlt c3)
        have c4 : (at_ s k != 32) = true := by rw [bne_iff_ne]; exact c3
        clear c3
        go_wp2_with fail
        go_roundw
        case rel => exact ⟨k + 1, b, l, by omega, by go_num, by go_num, hown, Hs, by omega, by omega, Hall, hbel⟩
        case measure => simp [intOf]; omega
    · by_cases hke : k = s.size
      · have Hall : Hid (∀ j, j < k + 1 → j < s.size → 32 ≤ at_ s j ∧ at_ s j ≤ 126) := fun j hj hs => hall.out j (by omega) hs
        have Hk := Lib.hid hke
        clear hke
        have hk2 : k ≤ s.size := by have := Hk.out; omega
        by_cases hbk2 : b < k
        · have Hs := Lib.hid (st_add hst.out (.inl Hk.out) hbk2)
          go_wp2_with (at_builtin; refine wpList_append_own _ rfl (.tmp 48) (.tmp 53) 25 rfl w.heap.size 9 i0 (.string ⟨#[]⟩) 1 16 Try.underlying25 hi hz0 hz1 hz2 rfl (by decide) _ l.length _ rfl (hown.alloc _) ⟨wr.heap.size, 0, none⟩ 1 1 (scells [s.extract b k]) rfl rfl (by exact lit_cells _ _ _) (by intro u hu; simp [scells] at hu; subst hu; rfl) (by unfold maxLen; omega) (by omega) (by have := hbel.size; simp; omega) ?_)
          intro v2 w2 hown2 hg2 _
          have hbel2 : Below w.heap.size w w2 := (hbel.alloc hbel.size _).grown hg2 (by have := hbel.size; simp; omega) (fun b hb => (hown.lt b hb).1)
          clear hown hbel hg2
          go_wp2_with fail
          go_roundw
          case rel => exact ⟨k + 1, k + 1, l ++ [s.extract b k], by omega, by go_num, by go_num, by rw [scells_append, List.length_append]; exact hown2, Hs, Nat.le_refl _, by simp; omega, Hall, hbel2⟩
          case measure => simp [intOf]; omega
        · have Hs := Lib.hid (st_skip hst.out (.inl Hk.out) hbk2)
          go_wp2_with fail
          go_roundw
          case rel => exact ⟨k + 1, k + 1, l, by omega, by go_num, by go_num, hown, Hs, Nat.le_refl _, by omega, Hall, hbel⟩
          case measure => simp [intOf]; omega
      · have hke2 : k = s.size + 1 := by omega
        have hfin : fin s = l := by unfold fin; rw [← hke2, hst.out]
        have hall2 := hall.out
        have Hf := Lib.hid hfin
        obtain ⟨A, c, rfl, hlc, hcm, hrd⟩ := Rd.of_own hown
        have hgk : ¬ s.size + 1 ≤ k → False := by omega
        by_cases h12 : 12 < l.length
        · have hP : ∀ e w', _ := fun e w' => post_no (s := s) (w := w) (w' := w') (e := e) (fun h => by have := h.2.2; rw [hfin] at this; omega)
          have HP := Lib.hid hP
          have Hk := Lib.hid hke2
          have hk3 : s.size < k := by omega
          clear hP hke hke2 hfin hall2 hgk
          go_wp2_with fail
          go_ret2
          exact HP.out _ _ _ rfl ((World.ownsRow_lit wr #[] 0 hbel.size (by simp [maxLen]) rfl)) (hbel.alloc hbel.size _)
        · have hP : ∀ e w', _ := fun e w' => post_yes (s := s) (w := w) (w' := w') (e := e) ⟨h1', fun j hj => hall2 j (by omega) hj, by rw [hfin]; omega⟩
          rw [hfin] at hP
          have HP := Lib.hid hP
          have Hk := Lib.hid hke2
          have hk3 : s.size < k := by omega
          clear hP hke hke2 hfin hall2 hgk
          go_wp2_with fail
          go_ret2
          exact HP.out _ _ _ rfl hown hbel

theorem field_none (f : ByteArray) (w : World) (v : Value) (hf : f.toList.isEmpty = true) :
    Calls Try.prog 21 #[v, .string f] w fun e w' => e = .returned v ∧ w = w' := by
  go_enter Try.func21, Try.ntmps21
  go_wp2_with fail
  go_ret
  exact ⟨rfl, rfl⟩

/-- A slice value that owns l, whatever it is. -/
def Gets (B : Nat) (l : List ByteArray) (w : World) (e : Ending) (w' : World) : Prop :=
  ∃ v : Value, e = .returned v ∧ w'.ownsRow B 9 1 v l.length (scells l) ∧ Below B w w'

theorem field_some (f : ByteArray) (w : World) (B : Nat) (v : Value) (l : List ByteArray) (hf : f.toList.isEmpty = false) (hB : B ≤ w.heap.size) (hl : l.length ≤ 601) (hown : w.ownsRow B 9 1 v l.length (scells l)) :
    Calls Try.prog 21 #[v, .string f] w (Gets B (l ++ [f]) w) := by
  obtain ⟨i0, hi, hz0, hz1, hz2⟩ := info_parts TryinfoS
  go_enter Try.func21, Try.ntmps21
  go_wp2_with (at_builtin; refine wpList_append_own _ rfl (.tmp 8) (.tmp 10) 25 rfl B 9 i0 (.string ⟨#[]⟩) 1 16 Try.underlying25 hi hz0 hz1 hz2 rfl (by decide) _ l.length _ rfl (hown.alloc _) ⟨w.heap.size, 0, none⟩ 1 1 (scells [f]) rfl rfl (by exact lit_cells _ _ _) (by intro u hu; simp [scells] at hu; subst hu; rfl) (by unfold maxLen; omega) (by omega) (by simp; omega) ?_)
  intro v2 w2 hown2 hg2 _
  have hbel2 : Below B w w2 := ((Below.refl B w).alloc hB _).grown hg2 (by simp; omega) (fun b hb => (hown.lt b hb).1)
  go_wp2_with fail
  go_ret
  exact ⟨_, rfl, by rw [scells_append, List.length_append]; exact hown2, hbel2⟩

theorem ext_size (s : ByteArray) (b k : Nat) (h : b ≤ k) (hk : k ≤ s.size) : (s.extract b k).size = k - b := by simp; omega

theorem impl_any (s : ByteArray) (w : World) (hs : s.size ≤ maxLen) :
    Calls Try.prog 12 #[.string s] w (Post s w) := by
  unfold maxLen at hs
  by_cases h1 : 600 < s.size
  · have hP : ∀ e w', _ := fun e w' => post_no (s := s) (w := w) (w' := w') (e := e) (fun h => by have := h.1; omega)
    go_enter Try.func12, Try.ntmps12
    go_wp2_with fail
    go_step3
    go_wp2_with fail
    (try rw [Exit.noGoto_ret])
    go_ret2
    exact hP _ _ _ rfl (World.ownsRow_nil _ _ _ _) (Below.refl _ _)
  have h1' : s.size ≤ 600 := by omega
  clear h1
  go_enter Try.func12, Try.ntmps12
  go_wp2_with fail
  go_step3
  go_wp2_with fail
  go_step3
  go_wp2_with fail
  have hown1 : (w.alloc (.cells #[] 9)).ownsRow w.heap.size 9 1 (.slice (some ⟨w.heap.size, 0, none⟩) 0 0) 0 (scells []) := World.ownsRow_lit w #[] 0 (Nat.le_refl _) (by simp [maxLen]) rfl
  have hb1 : Below w.heap.size w (w.alloc (.cells #[] 9)) := (Below.refl _ _).alloc (Nat.le_refl _) _
  go_loopw [4, 5, 6] (fun v a i wr => ∃ (k b : Nat) (l : List ByteArray), k ≤ s.size ∧ i = .int .i64 k ∧ a = .int .i64 b ∧ wr.ownsRow w.heap.size 9 1 v l.length (scells l) ∧ Hid (st s k = (b, l)) ∧ b ≤ k ∧ l.length ≤ k ∧ Hid (∀ j, j < k → 32 ≤ at_ s j ∧ at_ s j ≤ 126) ∧ Below w.heap.size w wr) (fun _ _ i _ => s.size - (intOf i).toNat)
  case atStart => exact ⟨0, 0, [], Nat.zero_le _, rfl, rfl, hown1, rfl, Nat.le_refl _, Nat.le_refl _, fun j hj => by omega, hb1⟩
  case round =>
    clear hown1 hb1
    obtain ⟨k, b, l, hk, rfl, rfl, hown, hst, hbk, hlk, hall, hbel⟩ := hrel
    by_cases hlt : k < s.size
    · have ha := at_eq s k hlt
      have hd := at_bd s k
      by_cases c1 : at_ s k < 32
      · have hP : ∀ e w', _ := fun e w' => post_no (s := s) (w := w) (w' := w') (e := e) (fun h => by have := h.2.1 k hlt; omega)
        have HP := Lib.hid hP
        clear hP
        go_wp2_with fail
        (try rw [Exit.noGoto_ret])
        go_ret2
        exact HP.out _ _ _ rfl (World.ownsRow_nil _ _ _ _) hbel
      by_cases c2 : 126 < at_ s k
      · have hP : ∀ e w', _ := fun e w' => post_no (s := s) (w := w) (w' := w') (e := e) (fun h => by have := h.2.1 k hlt; omega)
        have HP := Lib.hid hP
        clear hP
        go_wp2_with fail
        (try rw [Exit.noGoto_ret])
        go_ret2
        exact HP.out _ _ _ rfl (World.ownsRow_nil _ _ _ _) hbel
      have Hall : Hid (∀ j, j < k + 1 → 32 ≤ at_ s j ∧ at_ s j ≤ 126) := fun j hj => by
        by_cases e : j = k
        · subst e; omega
        · exact hall.out j (by omega)
      by_cases c3 : at_ s k = 32
      · have Hc := Lib.hid c3
        have c4 : (at_ s k == 32) = true := beq_iff_eq.2 c3
        clear c3
        by_cases hbk2 : b < k
        · have Hs := Lib.hid (st_add hst.out (.inr Hc.out) hbk2)
          have he : (s.extract b k).toList.isEmpty = false := empty_no (by rw [ext_size s b k hbk hk]; omega)
          have Hf := Lib.hid (fun W (hw : w.heap.size ≤ W.heap.size) hl ho => field_some (s.extract b k) W w.heap.size u4 l he hw hl ho)
          clear he
          go_wp2_with fail
          refine (Hf.out _ hbel.size (by omega) hown).mono ?_
          rintro e w2 ⟨v2, rfl, hown2, hb2⟩
          have hbel2 := hbel.trans hb2
          clear hown hbel Hf ha c4
          go_wp2_with fail
          go_roundw
          case rel => exact ⟨k + 1, k + 1, l ++ [s.extract b k], by omega, by go_num, by go_num, hown2, Hs, Nat.le_refl _, by simp; omega, Hall, hbel2⟩
          case measure => simp [intOf]; omega
        · have Hs := Lib.hid (st_skip hst.out (.inr Hc.out) hbk2)
          have he : (s.extract b k).toList.isEmpty = true := empty_yes (by rw [ext_size s b k hbk hk]; omega)
          have Hf := Lib.hid (fun W => field_none (s.extract b k) W u4 he)
          clear he
          go_wp2_with fail
          refine (Hf.out _).mono ?_
          rintro e w2 ⟨rfl, rfl⟩
          clear Hf ha c4
          go_wp2_with fail
          go_roundw
          case rel => exact ⟨k + 1, k + 1, l, by omega, by go_num, by go_num, hown, Hs, Nat.le_refl _, by omega, Hall, hbel⟩
          case measure => simp [intOf]; omega
      · have Hs := Lib.hid (st_no hst.out hlt c3)
        have c4 : (at_ s k == 32) = false := beq_eq_false_iff_ne.2 c3
        clear c3
        go_wp2_with fail
        go_roundw
        case rel => exact ⟨k + 1, b, l, by omega, by go_num, by go_num, hown, Hs, by omega, by omega, Hall, hbel⟩
        case measure => simp [intOf]; omega
    · have hke : k = s.size := by omega
      subst hke
      clear hlt hk
      have hall2 := Lib.hid hall.out
      clear hall
      by_cases hbk2 : b < s.size
      · have hfin : fin s = l ++ [s.extract b s.size] := by unfold fin; rw [st_add hst.out (.inl rfl) hbk2]
        have he : (s.extract b s.size).toList.isEmpty = false := empty_no (by rw [ext_size s b s.size hbk (Nat.le_refl _)]; omega)
        have Hf := Lib.hid (fun W (hw : w.heap.size ≤ W.heap.size) hl ho => field_some (s.extract b s.size) W w.heap.size u4 l he hw hl ho)
        clear he
        have Hfin := Lib.hid hfin
        clear hfin
        go_wp2_with fail
        refine (Hf.out _ hbel.size (by omega) hown).mono ?_
        rintro e w2 ⟨v2, rfl, hown2, hb2⟩
        have hbel2 := hbel.trans hb2
        rw [← Hfin.out] at hown2
        clear hown hbel Hf
        obtain ⟨A, c, rfl, hlc, hcm, hrd⟩ := Rd.of_own hown2
        unfold maxLen at hcm
        by_cases h12 : 12 < (fin s).length
        · have hP : ∀ e w', _ := fun e w' => post_no (s := s) (w := w) (w' := w') (e := e) (fun h => by have := h.2.2; omega)
          have HP := Lib.hid hP
          clear hP
          go_wp2_with fail
          (try rw [Exit.noGoto_ret])
          go_ret2
          exact HP.out _ _ _ rfl (World.ownsRow_nil _ _ _ _) hbel2
        · have hP : ∀ e w', _ := fun e w' => post_yes (s := s) (w := w) (w' := w') (e := e) ⟨h1', fun j hj => hall2.out j hj, by omega⟩
          have HP := Lib.hid hP
          clear hP
          go_wp2_with fail
          (try rw [Exit.noGoto_ret])
          go_ret2
          exact HP.out _ _ _ rfl hown2 hbel2
      · have hfin : fin s = l := by unfold fin; rw [st_skip hst.out (.inl rfl) hbk2]
        have he : (s.extract b s.size).toList.isEmpty = true := empty_yes (by rw [ext_size s b s.size hbk (Nat.le_refl _)]; omega)
        have Hf := Lib.hid (fun W => field_none (s.extract b s.size) W u4 he)
        clear he
        have Hfin := Lib.hid hfin
        clear hfin
        go_wp2_with fail
        refine (Hf.out _).mono ?_
        rintro e w2 ⟨rfl, rfl⟩
        rw [← Hfin.out] at hown
        clear Hf
        obtain ⟨A, c, rfl, hlc, hcm, hrd⟩ := Rd.of_own hown
        unfold maxLen at hcm
        by_cases h12 : 12 < (fin s).length
        · have hP : ∀ e w', _ := fun e w' => post_no (s := s) (w := w) (w' := w') (e := e) (fun h => by have := h.2.2; omega)
          have HP := Lib.hid hP
          clear hP
          go_wp2_with fail
          (try rw [Exit.noGoto_ret])
          go_ret2
          exact HP.out _ _ _ rfl (World.ownsRow_nil _ _ _ _) hbel
        · have hP : ∀ e w', _ := fun e w' => post_yes (s := s) (w := w) (w' := w') (e := e) ⟨h1', fun j hj => hall2.out j hj, by omega⟩
          have HP := Lib.hid hP
          clear hP
          go_wp2_with fail
          (try rw [Exit.noGoto_ret])
          go_ret2
          exact HP.out _ _ _ rfl hown hbel
end Go.Proofs.Ytecbgflakidegaa.parts
