/- spec.ReadFrame. -/
import Derived.Test.YtljahpngngmecaaDoorFrOkS
import Derived.Test.YtljahpngngmecaaDoorReadFixS
import Derived.Test.YtljahpngngmecaaDoorUnS
namespace Go.Proofs.YtljahpngngmecaaDoor.frame
open Go.ChangeShapes Go.WideShapes Go.ChangeAt Go.RowKit
open crc fixed
set_option linter.unusedVariables false

theorem magic_ne {s : ByteArray} (h : ¬ s.extract 0 5 = magic) : ((s.extract 0 5).toList == [66, 69, 82, 84, 72]) = false ∧ (([66, 69, 82, 84, 72] : List UInt8) == (s.extract 0 5).toList) = false := by
  have h1 : (s.extract 0 5).toList ≠ [66, 69, 82, 84, 72] := fun e => h (bytes_ext (by rw [← list_eq, e]; rfl))
  exact ⟨beq_eq_false_iff_ne.2 h1, beq_eq_false_iff_ne.2 fun e => h1 e.symm⟩

theorem res_below (w : World) : Below w.heap.size w (w.alloc (.cells #[.int .i64 0, .string ⟨#[]⟩] 25)) := (Below.refl _ _).alloc (Nat.le_refl _) _
theorem sr_short (s : ByteArray) (w : World) (hs : s.size ≤ maxLen) (h0 : s.size < 14) :
    Calls Tryd.prog 20 #[.string s] w fun e w' => e = .returned (rdV (((0, ⟨#[]⟩), 1))) ∧ Below w.heap.size w w' := by
  have hm := hs
  unfold maxLen at hm
  have Hb := Lib.hid (res_below w)
  go_enter Tryd.func20, Tryd.ntmps20
  go_wp2_with fail
  refine bodyPost_ret (v := rdV (((0, ⟨#[]⟩), 1))) ?_ rfl ⟨rfl, Hb.out⟩
  exact ret_frame rfl rfl rfl (heap_alloc_new w _)
theorem sr_magic (s : ByteArray) (w : World) (hs : s.size ≤ maxLen) (n : Nat) (hn : s.size = n + 14) (h1 : ¬ s.extract 0 5 = magic) :
    Calls Tryd.prog 20 #[.string s] w fun e w' => e = .returned (rdV (((0, ⟨#[]⟩), 2))) ∧ Below w.heap.size w w' := by
  have hm := hs
  unfold maxLen at hm
  have Hb := Lib.hid (res_below w)
  have en : (s.size : Int) - 14 = (n : Int) := by omega
  have j1 : ¬ ((n : Int) < 0) := by omega
  have j2 : ¬ (s.size < 5) := by omega
  obtain ⟨m1, m2⟩ := magic_ne h1
  clear hn h1
  go_enter Tryd.func20, Tryd.ntmps20
  go_wp2_with fail
  refine bodyPost_ret (v := rdV (((0, ⟨#[]⟩), 2))) ?_ rfl ⟨rfl, Hb.out⟩
  exact ret_frame rfl rfl rfl (heap_alloc_new w _)
theorem sr_version (s : ByteArray) (w : World) (hs : s.size ≤ maxLen) (n : Nat) (x : Int) (hn : s.size = n + 14) (h1 : s.extract 0 5 = magic) (hx : at_ s 5 = x) (h2 : x < 1 ∨ 9 < x) :
    Calls Tryd.prog 20 #[.string s] w fun e w' => e = .returned (rdV (((0, ⟨#[]⟩), 3))) ∧ Below w.heap.size w w' := by
  have hm := hs
  unfold maxLen at hm
  have Hb := Lib.hid (res_below w)
  have en : (s.size : Int) - 14 = (n : Int) := by omega
  have j1 : ¬ ((n : Int) < 0) := by omega
  have j2 : ¬ (s.size < 5) := by omega
  have h1' : s.extract 0 5 = ⟨#[66, 69, 82, 84, 72]⟩ := h1
  have hl5 : 5 < s.size := by omega
  have eat := at_eq s 5 hl5
  have hat := at_bd s 5
  generalize at_ s 5 = x at eat hat hx
  subst hx
  have HI := Lib.hid (fun w => arith.in_no x 1 9 w h2)
  clear hn h1 h2
  go_enter Tryd.func20, Tryd.ntmps20
  go_wp2_with fail
  refine (HI.out _).mono ?_
  rintro e w1 ⟨rfl, rfl⟩
  clear HI
  go_wp2_with fail
  refine bodyPost_ret (v := rdV (((0, ⟨#[]⟩), 3))) ?_ rfl ⟨rfl, Hb.out⟩
  exact ret_frame rfl rfl rfl (heap_alloc_new w _)
theorem sr_length1 (s : ByteArray) (w : World) (hs : s.size ≤ maxLen) (n : Nat) (x m : Int) (hn : s.size = n + 14) (h1 : s.extract 0 5 = magic) (hx : at_ s 5 = x) (h2 : 1 ≤ x) (h2' : x ≤ 9) (HR : Hid (∀ w, Calls Tryd.prog 34 #[.string s, .int .i64 6, .int .i64 4] w fun e w' => e = .returned (.tuple #[.int .i64 m, .bool true]) ∧ Below w.heap.size w w')) (h3 : ¬ m = (n : Int)) :
    Calls Tryd.prog 20 #[.string s] w fun e w' => e = .returned (rdV (((0, ⟨#[]⟩), 4))) ∧ Below w.heap.size w w' := by
  have hm := hs
  unfold maxLen at hm
  have Hb := Lib.hid (res_below w)
  have en : (s.size : Int) - 14 = (n : Int) := by omega
  have j1 : ¬ ((n : Int) < 0) := by omega
  have j2 : ¬ (s.size < 5) := by omega
  have h1' : s.extract 0 5 = ⟨#[66, 69, 82, 84, 72]⟩ := h1
  have hl5 : 5 < s.size := by omega
  have eat := at_eq s 5 hl5
  have hat := at_bd s 5
  generalize at_ s 5 = x at eat hat hx
  subst hx
  have HI := Lib.hid (fun w => arith.in_yes x 1 9 w h2 h2')
  have hne : (m == (n : Int)) = false := beq_eq_false_iff_ne.2 h3
  clear hn h1 h2 h2'
  go_enter Tryd.func20, Tryd.ntmps20
  go_wp2_with fail
  refine (HI.out _).mono ?_
  rintro e w1 ⟨rfl, rfl⟩
  clear HI
  go_wp2_with fail
  refine (HR.out _).mono ?_
  rintro e w1 ⟨rfl, hb1⟩
  clear HR
  have hg : w1.heap[w.heap.size]? = some (.cells #[.int .i64 0, .string ⟨#[]⟩] 25 (0, 0)) := heap_kept hb1 (by simp) (heap_alloc_new w _)
  have hbw : Below w.heap.size w w1 := Hb.out.trans (hb1.mono (by simp))
  clear hb1
  go_wp2_with (first | (refine wpList_store_row rfl 25 _ _ rfl w.heap.size #[.int .i64 0, .string ⟨#[]⟩] rfl rfl 25 _ hg frame_info rfl (frame_one _ _) ?_) | fail)
  refine bodyPost_ret (v := rdV (((0, ⟨#[]⟩), 4))) ?_ rfl ⟨rfl, setRow_below hbw (Nat.le_refl _) _⟩
  exact ret_frame rfl rfl rfl (setRow_at hg)
theorem sr_length2 (s : ByteArray) (w : World) (hs : s.size ≤ maxLen) (n : Nat) (x m : Int) (hn : s.size = n + 14) (h1 : s.extract 0 5 = magic) (hx : at_ s 5 = x) (h2 : 1 ≤ x) (h2' : x ≤ 9) (HR : Hid (∀ w, Calls Tryd.prog 34 #[.string s, .int .i64 6, .int .i64 4] w fun e w' => e = .returned (.tuple #[.int .i64 m, .bool true]) ∧ Below w.heap.size w w')) (h3 : m = (n : Int)) (h4 : 19980 < n) :
    Calls Tryd.prog 20 #[.string s] w fun e w' => e = .returned (rdV (((0, ⟨#[]⟩), 4))) ∧ Below w.heap.size w w' := by
  have hm := hs
  unfold maxLen at hm
  have Hb := Lib.hid (res_below w)
  have en : (s.size : Int) - 14 = (n : Int) := by omega
  have j1 : ¬ ((n : Int) < 0) := by omega
  have j2 : ¬ (s.size < 5) := by omega
  have h1' : s.extract 0 5 = ⟨#[66, 69, 82, 84, 72]⟩ := h1
  have hl5 : 5 < s.size := by omega
  have eat := at_eq s 5 hl5
  have hat := at_bd s 5
  generalize at_ s 5 = x at eat hat hx
  subst hx
  have HI := Lib.hid (fun w => arith.in_yes x 1 9 w h2 h2')
  subst h3
  have hd : decide (19980 < (n : Int)) = true := by simp; omega
  clear hn h1 h2 h2'
  go_enter Tryd.func20, Tryd.ntmps20
  go_wp2_with fail
  refine (HI.out _).mono ?_
  rintro e w1 ⟨rfl, rfl⟩
  clear HI
  go_wp2_with fail
  refine (HR.out _).mono ?_
  rintro e w1 ⟨rfl, hb1⟩
  clear HR
  have hg : w1.heap[w.heap.size]? = some (.cells #[.int .i64 0, .string ⟨#[]⟩] 25 (0, 0)) := heap_kept hb1 (by simp) (heap_alloc_new w _)
  have hbw : Below w.heap.size w w1 := Hb.out.trans (hb1.mono (by simp))
  clear hb1
  go_wp2_with (first | (refine wpList_store_row rfl 25 _ _ rfl w.heap.size #[.int .i64 0, .string ⟨#[]⟩] rfl rfl 25 _ hg frame_info rfl (frame_one _ _) ?_) | fail)
  refine bodyPost_ret (v := rdV (((0, ⟨#[]⟩), 4))) ?_ rfl ⟨rfl, setRow_below hbw (Nat.le_refl _) _⟩
  exact ret_frame rfl rfl rfl (setRow_at hg)
theorem sr_sum (s : ByteArray) (w : World) (hs : s.size ≤ maxLen) (n : Nat) (x m : Int) (hn : s.size = n + 14) (h1 : s.extract 0 5 = magic) (hx : at_ s 5 = x) (h2 : 1 ≤ x) (h2' : x ≤ 9) (HR : Hid (∀ w, Calls Tryd.prog 34 #[.string s, .int .i64 6, .int .i64 4] w fun e w' => e = .returned (.tuple #[.int .i64 m, .bool true]) ∧ Below w.heap.size w w')) (h3 : m = (n : Int)) (h4 : n ≤ 19980) (u : ByteArray) (HU : Hid (∀ w, Calls Tryd.prog 35 #[.string s] w fun e w' => e = .returned (.tuple #[.string u, .bool false]) ∧ Below w.heap.size w w')) :
    Calls Tryd.prog 20 #[.string s] w fun e w' => e = .returned (rdV (((0, ⟨#[]⟩), 5))) ∧ Below w.heap.size w w' := by
  have hm := hs
  unfold maxLen at hm
  have Hb := Lib.hid (res_below w)
  have en : (s.size : Int) - 14 = (n : Int) := by omega
  have j1 : ¬ ((n : Int) < 0) := by omega
  have j2 : ¬ (s.size < 5) := by omega
  have h1' : s.extract 0 5 = ⟨#[66, 69, 82, 84, 72]⟩ := h1
  have hl5 : 5 < s.size := by omega
  have eat := at_eq s 5 hl5
  have hat := at_bd s 5
  generalize at_ s 5 = x at eat hat hx
  subst hx
  have HI := Lib.hid (fun w => arith.in_yes x 1 9 w h2 h2')
  subst h3
  have hd : decide (19980 < (n : Int)) = false := by simp; omega
  clear hn h1 h2 h2'
  go_enter Tryd.func20, Tryd.ntmps20
  go_wp2_with fail
  refine (HI.out _).mono ?_
  rintro e w1 ⟨rfl, rfl⟩
  clear HI
  go_wp2_with fail
  refine (HR.out _).mono ?_
  rintro e w1 ⟨rfl, hb1⟩
  clear HR
  have hg : w1.heap[w.heap.size]? = some (.cells #[.int .i64 0, .string ⟨#[]⟩] 25 (0, 0)) := heap_kept hb1 (by simp) (heap_alloc_new w _)
  have hbw : Below w.heap.size w w1 := Hb.out.trans (hb1.mono (by simp))
  clear hb1
  have Hg := Lib.hid hg
  have Hbw := Lib.hid hbw
  clear hg hbw
  go_wp2_with fail
  refine (HU.out _).mono ?_
  rintro e w2 ⟨rfl, hb2⟩
  clear HU
  have hg : w2.heap[w.heap.size]? = some (.cells #[.int .i64 0, .string ⟨#[]⟩] 25 (0, 0)) := heap_kept hb2 (Array.getElem?_eq_some_iff.1 Hg.out).1 Hg.out
  have hbw : Below w.heap.size w w2 := Hbw.out.trans (hb2.mono Hbw.out.size)
  clear hb2 Hg Hbw
  go_wp2_with (first | (refine wpList_store_row rfl 25 _ _ rfl w.heap.size #[.int .i64 0, .string ⟨#[]⟩] rfl rfl 25 _ hg frame_info rfl (frame_one _ _) ?_) | fail)
  refine bodyPost_ret (v := rdV (((0, ⟨#[]⟩), 5))) ?_ rfl ⟨rfl, setRow_below hbw (Nat.le_refl _) _⟩
  exact ret_frame rfl rfl rfl (setRow_at hg)
set_option maxRecDepth 100000 in
theorem sr_yes (s : ByteArray) (w : World) (hs : s.size ≤ maxLen) (n : Nat) (x m : Int) (hn : s.size = n + 14) (h1 : s.extract 0 5 = magic) (hx : at_ s 5 = x) (h2 : 1 ≤ x) (h2' : x ≤ 9) (HR : Hid (∀ w, Calls Tryd.prog 34 #[.string s, .int .i64 6, .int .i64 4] w fun e w' => e = .returned (.tuple #[.int .i64 m, .bool true]) ∧ Below w.heap.size w w')) (h3 : m = (n : Int)) (h4 : n ≤ 19980) (u : ByteArray) (HU : Hid (∀ w, Calls Tryd.prog 35 #[.string s] w fun e w' => e = .returned (.tuple #[.string u, .bool true]) ∧ Below w.heap.size w w')) :
    Calls Tryd.prog 20 #[.string s] w fun e w' => e = .returned (rdV (((x, s.extract 10 (10 + n)), 0))) ∧ Below w.heap.size w w' := by
  have hm := hs
  unfold maxLen at hm
  have Hb := Lib.hid (res_below w)
  have en : (s.size : Int) - 14 = (n : Int) := by omega
  have j1 : ¬ ((n : Int) < 0) := by omega
  have j2 : ¬ (s.size < 5) := by omega
  have h1' : s.extract 0 5 = ⟨#[66, 69, 82, 84, 72]⟩ := h1
  have hl5 : 5 < s.size := by omega
  have eat := at_eq s 5 hl5
  have hat := at_bd s 5
  generalize at_ s 5 = x at eat hat hx
  subst hx
  have HI := Lib.hid (fun w => arith.in_yes x 1 9 w h2 h2')
  subst h3
  have hd : decide (19980 < (n : Int)) = false := by simp; omega
  obtain ⟨m2, hm2⟩ : ∃ m2, 10 + n = m2 := ⟨_, rfl⟩
  rw [hm2]
  have ewr : IntKind.i64.wrap (10 + (n : Int)) = (m2 : Int) := by rw [IntWalk.i64_in _ (by omega)]; omega
  have k0 : (10 : Int) ≤ (m2 : Int) := by omega
  have k1 : (m2 : Int) ≤ (s.size : Int) := by omega
  have k2 : (5 : Int) < (s.size : Int) := by omega
  clear hn h1 h2 h2' hm2 h4
  go_enter Tryd.func20, Tryd.ntmps20
  go_wp2_with fail
  refine (HI.out _).mono ?_
  rintro e w1 ⟨rfl, rfl⟩
  clear HI
  go_wp2_with fail
  refine (HR.out _).mono ?_
  rintro e w1 ⟨rfl, hb1⟩
  clear HR
  have hg : w1.heap[w.heap.size]? = some (.cells #[.int .i64 0, .string ⟨#[]⟩] 25 (0, 0)) := heap_kept hb1 (by simp) (heap_alloc_new w _)
  have hbw : Below w.heap.size w w1 := Hb.out.trans (hb1.mono (by simp))
  clear hb1
  have Hg := Lib.hid hg
  have Hbw := Lib.hid hbw
  clear hg hbw
  go_wp2_with fail
  refine (HU.out _).mono ?_
  rintro e w2 ⟨rfl, hb2⟩
  clear HU
  have hg : w2.heap[w.heap.size]? = some (.cells #[.int .i64 0, .string ⟨#[]⟩] 25 (0, 0)) := heap_kept hb2 (Array.getElem?_eq_some_iff.1 Hg.out).1 Hg.out
  have hbw : Below w.heap.size w w2 := Hbw.out.trans (hb2.mono Hbw.out.size)
  clear hb2 Hg Hbw
  go_wp2_with fail
  obtain ⟨c0, c1, f0, f1⟩ := two_cells hg
  have Hg := Lib.hid (set_two hg (.int .i64 x) (.string (s.extract 10 m2)))
  have Hbw : Hid (Below w.heap.size w ((w2.setCell ⟨w.heap.size, 0, none⟩ (.int .i64 x)).setCell ⟨w.heap.size, 1, none⟩ (.string (s.extract 10 m2)))) := (hbw.setCell (p := ⟨w.heap.size, 0, none⟩) (Nat.le_refl _) _).setCell (p := ⟨w.heap.size, 1, none⟩) (Nat.le_refl _) _
  clear hg hbw
  go_region
  go_wp2_with fail
  refine bodyPost_ret (v := rdV ((x, s.extract 10 m2), 0)) ?_ rfl ⟨rfl, Hbw.out.drew⟩
  exact ret_frame rfl rfl rfl Hg.out

theorem spec_read (s : ByteArray) (w : World) (hs : s.size ≤ maxLen) :
    Calls Tryd.prog 20 #[.string s] w fun e w' => e = .returned (rdV (readF s)) ∧ Below w.heap.size w w' := by
  by_cases h0 : s.size < 14
  · rw [read_short h0]
    exact sr_short s w hs h0
  obtain ⟨n, hn⟩ : ∃ n, s.size = n + 14 := ⟨s.size - 14, by omega⟩
  by_cases h1 : s.extract 0 5 = magic
  case neg =>
    rw [read_magic h0 h1]
    exact sr_magic s w hs n hn h1
  by_cases h2 : 1 ≤ at_ s 5 ∧ at_ s 5 ≤ 9
  case neg =>
    rw [read_version h0 h1 h2]
    exact sr_version s w hs n _ hn h1 rfl (by omega)
  have HR := Lib.hid (fun w => fixed.spec_read s 6 4 w hs)
  rw [read_four (by omega), arith.two_some] at HR
  by_cases h3 : val s 6 4 = (s.size : Int) - 14 ∧ s.size ≤ 19994
  case neg =>
    rw [read_length h0 h1 h2 h3]
    by_cases h4 : val s 6 4 = (n : Int)
    · exact sr_length2 s w hs n _ _ hn h1 rfl h2.1 h2.2 HR h4 (by omega)
    · exact sr_length1 s w hs n _ _ hn h1 rfl h2.1 h2.2 HR h4
  have HU := Lib.hid (fun w => spec_un s w hs)
  cases h4 : (unF s).2 with
  | false =>
    rw [read_sum h0 h1 h2 h3 h4]
    rw [h4] at HU
    exact sr_sum s w hs n _ _ hn h1 rfl h2.1 h2.2 HR (by omega) (by omega) _ HU
  | true =>
    rw [read_yes h0 h1 h2 h3 h4, show s.size - 4 = 10 + n by omega]
    rw [h4] at HU
    exact sr_yes s w hs n _ _ hn h1 rfl h2.1 h2.2 HR (by omega) (by omega) _ HU
end Go.Proofs.YtljahpngngmecaaDoor.frame
