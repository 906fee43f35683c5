/- FnFrames: for every byte slice the law returns true. -/
import Derived.Test.YtljahpngngmecaaDoorDrawFrame
import Derived.Test.YtljahpngngmecaaDoorFrReI
import Derived.Test.YtljahpngngmecaaDoorFrVersionI
import Derived.Test.YtljahpngngmecaaDoorFrSizeI
namespace Go.Proofs.YtljahpngngmecaaDoor.fnFrames
open Go.ChangeShapes Go.WideShapes Go.ChangeAt Go.RowKit
open frame
set_option linter.unusedVariables false

theorem below_link {w a b : World} (h : Below w.heap.size w a) (k : Below a.heap.size a b) : Below w.heap.size w b := h.trans (k.mono h.size)
theorem below_new {w a : World} (h : Below w.heap.size w a) (o : Obj) : Below w.heap.size w (a.alloc o) := h.alloc h.size _
theorem kept_call {w w' : World} {g : Nat} {o : Obj} (h : w.heap[g]? = some o) (hb : Below w.heap.size w w') : w'.heap[g]? = some o := heap_kept hb (Array.getElem?_eq_some_iff.1 h).1 h
theorem kept_new {w : World} {g : Nat} {o : Obj} (h : w.heap[g]? = some o) (o2 : Obj) : (w.alloc o2).heap[g]? = some o := kept_call h ((Below.refl _ _).alloc (Nat.le_refl _) _)
theorem nonempty {s : ByteArray} (h : 0 < s.size) : (s.toList == []) = false ∧ s.toList.isEmpty = false := by
  have h1 := empty_no h
  refine ⟨?_, h1⟩
  cases hl : s.toList with
  | nil => rw [hl] at h1; cases h1
  | cons a r => rfl

set_option maxRecDepth 100000 in
set_option maxHeartbeats 16000000 in
theorem walk (A : Option Addr) (len cap : Nat) (zs : List Int) (W : World) (hr : IsRow .u8 W A len cap zs) (hSent : Sent W) :
    Calls Tryd.prog 3 #[.slice A len cap] W fun e w' => e = .returned (.bool true) ∧ Below W.heap.size W w' := by
  have hm := hr.le
  have hB := Lib.hid (lawBig.any A len cap W hm)
  unfold maxLen at hm
  obtain ⟨at5, hA⟩ := Sent.at_ hSent
  have HA := Lib.hid hA
  clear hSent hA
  by_cases h1 : 1048576 < len
  · clear hr
    go_enter Tryd.func3, Tryd.ntmps3
    go_wp2_with fail
    refine hB.out.mono ?_
    rintro e w1 ⟨rfl, rfl⟩
    go_wp2_with fail
    go_ret
    exact ⟨rfl, Below.refl _ _⟩
  have HD := Lib.hid (draw.frameText_any A len cap zs W hr (by omega))
  clear hr
  go_enter Tryd.func3, Tryd.ntmps3
  go_wp2_with fail
  refine hB.out.mono ?_
  rintro e w1 ⟨rfl, rfl⟩
  clear hB
  go_wp2_with fail
  refine HD.out.mono ?_
  rintro e w1 ⟨v, p, ⟨hv1, hv2, hp0⟩, rfl, hb1⟩
  clear HD
  have hpm : p.size ≤ maxLen := by unfold maxLen; omega
  have Hb1 := Lib.hid (below_new hb1 (.cells #[.int .i64 v, .string p] 25))
  have Hg3 := Lib.hid (heap_alloc_new w1 (.cells #[.int .i64 v, .string p] 25))
  have HT := Lib.hid (fun w => impl_text v p w hpm)
  have HO := Lib.hid (fun w => spec_ok v p w hpm)
  have HP := Lib.hid (fun w => impl_ok v p w hpm)
  have HZ := Lib.hid (fun w => impl_size v p w hpm)
  clear hb1
  unfold frV at HT HO HP HZ ⊢
  cases hok : okF v p with
  | false =>
    rw [hok] at HO HP
    rw [frame_no hok] at HT
    have H1 := Lib.hid (fun w => impl_size 1 ⟨#[]⟩ w (by unfold maxLen; decide))
    have hk1 : okF 1 ⟨#[]⟩ = true := by decide
    rw [frame_size hk1] at H1
    unfold frV at H1
    clear HZ hv1 hv2 hp0 HA
    obtain ⟨g3, hg3⟩ : ∃ g, w1.heap.size = g := ⟨_, rfl⟩
    rw [hg3] at Hg3
    have f3 := Hg3.out
    have Hb := Hb1
    clear Hg3 Hb1
    go_wp2_with fail
    try rw [hg3]
    refine (HT.out _).mono ?_
    rintro e w2 ⟨rfl, hb⟩
    replace Hb := Lib.hid (below_link Hb.out hb)
    replace f3 := kept_call f3 hb
    obtain ⟨f30, f31, _, _⟩ := two_cells f3
    clear hb HT
    go_wp2_with (first | (refine wpList_load_row rfl 25 _ rfl g3 rfl 25 #[.int .i64 v, .string p] (0, 0) _ f3 Tryd.underlying25 rfl frame_info ?_) | fail)
    clear f30 f31
    refine (HO.out _).mono ?_
    rintro e w3 ⟨rfl, hb⟩
    replace Hb := Lib.hid (below_link Hb.out hb)
    replace f3 := kept_call f3 hb
    obtain ⟨f30, f31, _, _⟩ := two_cells f3
    clear hb HO
    go_wp2_with (first | (refine wpList_load_row rfl 25 _ rfl g3 rfl 25 #[.int .i64 v, .string p] (0, 0) _ f3 Tryd.underlying25 rfl frame_info ?_) | fail)
    clear f30 f31
    refine (HP.out _).mono ?_
    rintro e w4 ⟨rfl, hb⟩
    replace Hb := Lib.hid (below_link Hb.out hb)
    replace f3 := kept_call f3 hb
    obtain ⟨f30, f31, _, _⟩ := two_cells f3
    clear hb HP
    go_wp2_with (first | (refine wpList_load_row rfl 25 _ rfl g3 rfl 25 #[.int .i64 v, .string p] (0, 0) _ f3 Tryd.underlying25 rfl frame_info ?_) | fail)
    clear f30 f31
    refine (H1.out _).mono ?_
    rintro e w5 ⟨rfl, hb⟩
    replace Hb := Lib.hid (below_link Hb.out hb)
    replace f3 := kept_call f3 hb
    obtain ⟨f30, f31, _, _⟩ := two_cells f3
    clear hb H1
    go_wp2_with (first | (refine wpList_load_row rfl 25 _ rfl g3 rfl 25 #[.int .i64 v, .string p] (0, 0) _ f3 Tryd.underlying25 rfl frame_info ?_) | fail)
    go_ret
    exact ⟨rfl, Hb.out⟩
  | true =>
    have hk := (ok_iff v p).1 hok
    rw [hok] at HO
    have hsz := frame_size hok
    have hrd := read_frame hok
    have hcut := read_cut hok
    have hre := fun v2 => re_frame hok v2
    obtain ⟨q, hq⟩ : ∃ q : Nat, v % 9 = (q : Int) := ⟨(v % 9).toNat, by omega⟩
    have hql : q < 9 := by omega
    have hqt : v.tmod 9 = (q : Int) := by rw [Int.tmod_eq_emod_of_nonneg (by omega)]; exact hq
    have hok2 : okF (1 + (q : Int)) p = true := ok_yes (by omega) (by omega) hk.2.2
    have hrd2 := read_frame hok2
    have hsz2 := frame_size hok2
    have hre2 := hre (1 + (q : Int))
    clear hre
    rw [hsz] at hcut HZ
    generalize hF : frameF v p = F at *
    generalize hF2 : frameF (1 + (q : Int)) p = F2 at *
    have hFm : F.size ≤ maxLen := by unfold maxLen; omega
    have hF2m : F2.size ≤ maxLen := by unfold maxLen; omega
    obtain ⟨m, hme⟩ : ∃ m, 14 + p.size - 1 = m := ⟨_, rfl⟩
    rw [hme] at hcut
    have HR := Lib.hid (fun w' (h : Below W.heap.size W w') => impl_read F w' at5 (HA.out.below h) hFm)
    have HV := Lib.hid (fun w' (h : Below W.heap.size W w') => impl_version F w' at5 (HA.out.below h) hFm)
    have HC := Lib.hid (fun w' (h : Below W.heap.size W w') => impl_read (F.extract 0 m) w' at5 (HA.out.below h) (by unfold maxLen; rw [ByteArray.size_extract]; omega))
    have HE := Lib.hid (fun w' (h : Below W.heap.size W w') => impl_reframed F (1 + (q : Int)) w' at5 (HA.out.below h) hFm)
    have HX := Lib.hid (fun w' (h : Below W.heap.size W w') => impl_read F2 w' at5 (HA.out.below h) hF2m)
    rw [hrd] at HR HV
    rw [hre2] at HE
    rw [hrd2] at HX
    generalize readF (F.extract 0 m) = rc at HC hcut
    obtain ⟨⟨cv, cp⟩, ck⟩ := rc
    have hck : (ck == 0) = false := beq_eq_false_iff_ne.2 hcut
    have hck2 : (ck != 0) = true := by simpa using hcut
    have hck3 : ¬ ck = 0 := hcut
    unfold rdV frV at HR HC HX
    obtain ⟨hne, hne2⟩ := nonempty (s := F) (by omega)
    have em : (F.size : Int) - 1 = (m : Int) := by omega
    have em0 : (0 : Int) ≤ (m : Int) := by omega
    have em1 : (m : Int) ≤ (F.size : Int) := by omega
    have eq2 : IntKind.i64.wrap (1 + (q : Int)) = 1 + (q : Int) := IntWalk.i64_in _ (by omega)
    have hszb : ((F.size : Int) == 14 + (p.size : Int)) = true := by rw [beq_iff_eq]; omega
    have hszc : (((14 + p.size : Nat) : Int) == (F.size : Int)) = true := by rw [beq_iff_eq]; omega
    clear HP hk hok hok2 hsz2 hre2 hrd hrd2 hcut hF hF2 HA hq
    obtain ⟨g3, hg3⟩ : ∃ g, w1.heap.size = g := ⟨_, rfl⟩
    rw [hg3] at Hg3
    have f3 := Hg3.out
    have Hb := Hb1
    clear Hg3 Hb1
    go_wp2_with fail
    try rw [hg3]
    refine (HT.out _).mono ?_
    rintro e w2 ⟨rfl, hb⟩
    replace Hb := Lib.hid (below_link Hb.out hb)
    replace f3 := kept_call f3 hb
    obtain ⟨f30, f31, _, _⟩ := two_cells f3
    clear hb HT
    go_wp2_with (first | (refine wpList_load_row rfl 25 _ rfl g3 rfl 25 #[.int .i64 v, .string p] (0, 0) _ f3 Tryd.underlying25 rfl frame_info ?_) | fail)
    clear f30 f31
    refine (HO.out _).mono ?_
    rintro e w3 ⟨rfl, hb⟩
    replace Hb := Lib.hid (below_link Hb.out hb)
    replace f3 := kept_call f3 hb
    obtain ⟨f30, f31, _, _⟩ := two_cells f3
    clear hb HO
    go_wp2_with (first | (refine wpList_load_row rfl 25 _ rfl g3 rfl 25 #[.int .i64 v, .string p] (0, 0) _ f3 Tryd.underlying25 rfl frame_info ?_) | fail)
    clear f30 f31
    refine (HR.out _ Hb.out).mono ?_
    rintro e w4 ⟨rfl, hb⟩
    replace Hb := Lib.hid (below_link Hb.out hb)
    replace f3 := kept_call f3 hb
    obtain ⟨f30, f31, _, _⟩ := two_cells f3
    clear hb HR
    obtain ⟨g5, hg5⟩ : ∃ g, w4.heap.size = g := ⟨_, rfl⟩
    replace Hb := Lib.hid (below_new Hb.out (.cells #[.int .i64 v, .string p] 25))
    replace f3 := kept_new f3 (.cells #[.int .i64 v, .string p] 25)
    have f5 := heap_alloc_new w4 (.cells #[.int .i64 v, .string p] 25)
    rw [hg5] at f5
    go_wp2_with (first | (refine wpList_load_row rfl 25 _ rfl g3 rfl 25 #[.int .i64 v, .string p] (0, 0) _ f3 Tryd.underlying25 rfl frame_info ?_) | fail)
    try rw [hg5]
    clear f30 f31
    refine (HV.out _ Hb.out).mono ?_
    rintro e w5 ⟨rfl, hb⟩
    replace Hb := Lib.hid (below_link Hb.out hb)
    replace f3 := kept_call f3 hb
    replace f5 := kept_call f5 hb
    obtain ⟨f30, f31, _, _⟩ := two_cells f3
    obtain ⟨f50, f51, _, _⟩ := two_cells f5
    clear hb HV
    go_wp2_with (first | (refine wpList_load_row rfl 25 _ rfl g3 rfl 25 #[.int .i64 v, .string p] (0, 0) _ f3 Tryd.underlying25 rfl frame_info ?_) | (refine wpList_load_row rfl 25 _ rfl g5 rfl 25 #[.int .i64 v, .string p] (0, 0) _ f5 Tryd.underlying25 rfl frame_info ?_) | fail)
    clear f30 f31 f50 f51
    refine (HC.out _ Hb.out).mono ?_
    rintro e w6 ⟨rfl, hb⟩
    replace Hb := Lib.hid (below_link Hb.out hb)
    replace f3 := kept_call f3 hb
    replace f5 := kept_call f5 hb
    obtain ⟨f30, f31, _, _⟩ := two_cells f3
    obtain ⟨f50, f51, _, _⟩ := two_cells f5
    clear hb HC
    obtain ⟨g9, hg9⟩ : ∃ g, w6.heap.size = g := ⟨_, rfl⟩
    replace Hb := Lib.hid (below_new Hb.out (.cells #[.int .i64 cv, .string cp] 25))
    replace f3 := kept_new f3 (.cells #[.int .i64 cv, .string cp] 25)
    replace f5 := kept_new f5 (.cells #[.int .i64 cv, .string cp] 25)
    have f9 := heap_alloc_new w6 (.cells #[.int .i64 cv, .string cp] 25)
    rw [hg9] at f9
    clear f9
    obtain ⟨f30, f31, _, _⟩ := two_cells f3
    go_wp2_with (first | (refine wpList_load_row rfl 25 _ rfl g3 rfl 25 #[.int .i64 v, .string p] (0, 0) _ f3 Tryd.underlying25 rfl frame_info ?_) | (refine wpList_load_row rfl 25 _ rfl g5 rfl 25 #[.int .i64 v, .string p] (0, 0) _ f5 Tryd.underlying25 rfl frame_info ?_) | fail)
    try rw [hg9]
    clear f30 f31
    refine (HE.out _ Hb.out).mono ?_
    rintro e w7 ⟨rfl, hb⟩
    replace Hb := Lib.hid (below_link Hb.out hb)
    replace f3 := kept_call f3 hb
    replace f5 := kept_call f5 hb
    obtain ⟨f30, f31, _, _⟩ := two_cells f3
    obtain ⟨f50, f51, _, _⟩ := two_cells f5
    clear hb HE
    go_wp2_with (first | (refine wpList_load_row rfl 25 _ rfl g3 rfl 25 #[.int .i64 v, .string p] (0, 0) _ f3 Tryd.underlying25 rfl frame_info ?_) | (refine wpList_load_row rfl 25 _ rfl g5 rfl 25 #[.int .i64 v, .string p] (0, 0) _ f5 Tryd.underlying25 rfl frame_info ?_) | fail)
    clear f30 f31 f50 f51
    refine (HX.out _ Hb.out).mono ?_
    rintro e w8 ⟨rfl, hb⟩
    replace Hb := Lib.hid (below_link Hb.out hb)
    replace f3 := kept_call f3 hb
    replace f5 := kept_call f5 hb
    obtain ⟨f30, f31, _, _⟩ := two_cells f3
    obtain ⟨f50, f51, _, _⟩ := two_cells f5
    clear hb HX
    obtain ⟨g12, hg12⟩ : ∃ g, w8.heap.size = g := ⟨_, rfl⟩
    replace Hb := Lib.hid (below_new Hb.out (.cells #[.int .i64 (1 + (q : Int)), .string p] 25))
    replace f3 := kept_new f3 (.cells #[.int .i64 (1 + (q : Int)), .string p] 25)
    replace f5 := kept_new f5 (.cells #[.int .i64 (1 + (q : Int)), .string p] 25)
    have f12 := heap_alloc_new w8 (.cells #[.int .i64 (1 + (q : Int)), .string p] 25)
    rw [hg12] at f12
    obtain ⟨f30, f31, _, _⟩ := two_cells f3
    obtain ⟨f50, f51, _, _⟩ := two_cells f5
    obtain ⟨f120, f121, _, _⟩ := two_cells f12
    go_wp2_with fail
    refine (HZ.out _).mono ?_
    rintro e w9 ⟨rfl, hb⟩
    have hbF := Lib.hid (below_link Hb.out hb)
    replace f3 := kept_call f3 hb
    replace f12 := kept_call f12 hb
    clear hb HZ Hb f5 f30 f31 f50 f51 f120 f121
    obtain ⟨f30, f31, _, _⟩ := two_cells f3
    obtain ⟨f120, f121, _, _⟩ := two_cells f12
    clear f3 f12
    go_wp2_with fail
    go_ret
    exact ⟨rfl, hbF.out⟩
end Go.Proofs.YtljahpngngmecaaDoor.fnFrames
