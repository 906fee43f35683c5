/- impl.frameFault, impl.frameIn, impl.ReadFrame. -/
import Derived.Test.YtljahpngngmecaaDoorFrReadI
import Derived.Stop.IfaceNil
namespace Go.Proofs.YtljahpngngmecaaDoor.frame
open Go.ChangeShapes Go.WideShapes Go.ChangeAt Go.RowKit
open crc fixed
set_option linter.unusedVariables false

theorem ff_short (s : ByteArray) (w : World) (a : Fin 5 → Addr) (hA : At w a) (hs : s.size ≤ maxLen) (h0 : s.size < 14) :
    Calls Tryd.prog 41 #[.string s] w fun e w' => e = .returned (.iface 87 (.pointer (some (a 0)))) ∧ Below w.heap.size w w' := by
  have hm := hs
  unfold maxLen at hm
  have c0 := hA.c0
  clear hA
  go_enter Tryd.func41, Tryd.ntmps41
  go_wp2_with fail
  go_ret
  exact ⟨rfl, Below.refl _ _⟩
theorem ff_magic (s : ByteArray) (w : World) (a : Fin 5 → Addr) (hA : At w a) (hs : s.size ≤ maxLen) (h0 : ¬ s.size < 14) (h1 : ¬ s.extract 0 5 = magic) :
    Calls Tryd.prog 41 #[.string s] w fun e w' => e = .returned (.iface 87 (.pointer (some (a 1)))) ∧ Below w.heap.size w w' := by
  have hm := hs
  unfold maxLen at hm
  have j0 : ¬ ((s.size : Int) < 14) := by omega
  have HP := Lib.hid (fun w => prefix_no s w hs (by omega) h1)
  have c1 := hA.c1
  clear hA h1
  go_enter Tryd.func41, Tryd.ntmps41
  go_wp2_with fail
  refine (HP.out _).mono ?_
  rintro e w1 ⟨rfl, rfl⟩
  clear HP
  go_wp2_with fail
  go_ret
  exact ⟨rfl, Below.refl _ _⟩
theorem ff_version (s : ByteArray) (w : World) (a : Fin 5 → Addr) (hA : At w a) (hs : s.size ≤ maxLen) (h0 : ¬ s.size < 14) (h1 : s.extract 0 5 = magic) (x : Int) (hx : at_ s 5 = x) (h2 : x < 1 ∨ 9 < x) :
    Calls Tryd.prog 41 #[.string s] w fun e w' => e = .returned (.iface 87 (.pointer (some (a 2)))) ∧ Below w.heap.size w w' := by
  have hm := hs
  unfold maxLen at hm
  have j0 : ¬ ((s.size : Int) < 14) := by omega
  have HP := Lib.hid (fun w => prefix_yes s w hs (by omega) h1)
  have hl5 : 5 < s.size := by omega
  have eat := at_eq s 5 hl5
  have hat := at_bd s 5
  have k2 : (5 : Int) < (s.size : Int) := by omega
  rw [hx] at eat hat
  have HV := Lib.hid (fun w => ver_no x w h2)
  have c2 := hA.c2
  clear hA h1 h2 hx
  go_enter Tryd.func41, Tryd.ntmps41
  go_wp2_with fail
  refine (HP.out _).mono ?_
  rintro e w1 ⟨rfl, rfl⟩
  clear HP
  go_wp2_with fail
  refine (HV.out _).mono ?_
  rintro e w1 ⟨rfl, rfl⟩
  clear HV
  go_wp2_with fail
  go_ret
  exact ⟨rfl, Below.refl _ _⟩
theorem ff_length (s : ByteArray) (w : World) (a : Fin 5 → Addr) (hA : At w a) (hs : s.size ≤ maxLen) (h0 : ¬ s.size < 14) (h1 : s.extract 0 5 = magic) (x : Int) (hx : at_ s 5 = x) (h2 : 1 ≤ x) (h2' : x ≤ 9) (HL : Hid (∀ w, Calls Tryd.prog 51 #[.string s] w fun e w' => e = .returned (.bool false) ∧ Below w.heap.size w w')) :
    Calls Tryd.prog 41 #[.string s] w fun e w' => e = .returned (.iface 87 (.pointer (some (a 3)))) ∧ Below w.heap.size w w' := by
  have hm := hs
  unfold maxLen at hm
  have j0 : ¬ ((s.size : Int) < 14) := by omega
  have HP := Lib.hid (fun w => prefix_yes s w hs (by omega) h1)
  have hl5 : 5 < s.size := by omega
  have eat := at_eq s 5 hl5
  have hat := at_bd s 5
  have k2 : (5 : Int) < (s.size : Int) := by omega
  rw [hx] at eat hat
  have HV := Lib.hid (fun w => ver_yes x w h2 h2')
  have HA := Lib.hid hA
  clear hA h1 h2 h2' hx
  go_enter Tryd.func41, Tryd.ntmps41
  go_wp2_with fail
  refine (HP.out _).mono ?_
  rintro e w1 ⟨rfl, rfl⟩
  clear HP
  go_wp2_with fail
  refine (HV.out _).mono ?_
  rintro e w1 ⟨rfl, rfl⟩
  clear HV
  go_wp2_with fail
  refine (HL.out _).mono ?_
  rintro e w1 ⟨rfl, hb1⟩
  have c3 := (HA.out.below hb1).c3
  clear HL HA
  go_wp2_with fail
  go_ret
  exact ⟨rfl, hb1⟩
theorem ff_sum (s : ByteArray) (w : World) (a : Fin 5 → Addr) (hA : At w a) (hs : s.size ≤ maxLen) (h0 : ¬ s.size < 14) (h1 : s.extract 0 5 = magic) (x : Int) (hx : at_ s 5 = x) (h2 : 1 ≤ x) (h2' : x ≤ 9) (HL : Hid (∀ w, Calls Tryd.prog 51 #[.string s] w fun e w' => e = .returned (.bool true) ∧ Below w.heap.size w w')) (HU : Hid (∀ w, Calls Tryd.prog 52 #[.string s] w fun e w' => e = .returned (.bool false) ∧ Below w.heap.size w w')) :
    Calls Tryd.prog 41 #[.string s] w fun e w' => e = .returned (.iface 87 (.pointer (some (a 4)))) ∧ Below w.heap.size w w' := by
  have hm := hs
  unfold maxLen at hm
  have j0 : ¬ ((s.size : Int) < 14) := by omega
  have HP := Lib.hid (fun w => prefix_yes s w hs (by omega) h1)
  have hl5 : 5 < s.size := by omega
  have eat := at_eq s 5 hl5
  have hat := at_bd s 5
  have k2 : (5 : Int) < (s.size : Int) := by omega
  rw [hx] at eat hat
  have HV := Lib.hid (fun w => ver_yes x w h2 h2')
  have HA := Lib.hid hA
  clear hA h1 h2 h2' hx
  go_enter Tryd.func41, Tryd.ntmps41
  go_wp2_with fail
  refine (HP.out _).mono ?_
  rintro e w1 ⟨rfl, rfl⟩
  clear HP
  go_wp2_with fail
  refine (HV.out _).mono ?_
  rintro e w1 ⟨rfl, rfl⟩
  clear HV
  go_wp2_with fail
  refine (HL.out _).mono ?_
  rintro e w1 ⟨rfl, hb1⟩
  have Hb1 := Lib.hid hb1
  have HA1 := Lib.hid (HA.out.below hb1)
  clear HL HA hb1
  go_wp2_with fail
  refine (HU.out _).mono ?_
  rintro e w2 ⟨rfl, hb2⟩
  have c4 := (HA1.out.below hb2).c4
  have Hb2 := Lib.hid (Hb1.out.trans (hb2.mono Hb1.out.size))
  clear HU HA1 Hb1 hb2
  go_wp2_with fail
  go_ret
  exact ⟨rfl, Hb2.out⟩
theorem ff_none (s : ByteArray) (w : World) (a : Fin 5 → Addr) (hA : At w a) (hs : s.size ≤ maxLen) (h0 : ¬ s.size < 14) (h1 : s.extract 0 5 = magic) (x : Int) (hx : at_ s 5 = x) (h2 : 1 ≤ x) (h2' : x ≤ 9) (HL : Hid (∀ w, Calls Tryd.prog 51 #[.string s] w fun e w' => e = .returned (.bool true) ∧ Below w.heap.size w w')) (HU : Hid (∀ w, Calls Tryd.prog 52 #[.string s] w fun e w' => e = .returned (.bool true) ∧ Below w.heap.size w w')) :
    Calls Tryd.prog 41 #[.string s] w fun e w' => e = .returned (.nilIface) ∧ Below w.heap.size w w' := by
  have hm := hs
  unfold maxLen at hm
  have j0 : ¬ ((s.size : Int) < 14) := by omega
  have HP := Lib.hid (fun w => prefix_yes s w hs (by omega) h1)
  have hl5 : 5 < s.size := by omega
  have eat := at_eq s 5 hl5
  have hat := at_bd s 5
  have k2 : (5 : Int) < (s.size : Int) := by omega
  rw [hx] at eat hat
  have HV := Lib.hid (fun w => ver_yes x w h2 h2')
  have HA := Lib.hid hA
  clear hA h1 h2 h2' hx
  go_enter Tryd.func41, Tryd.ntmps41
  go_wp2_with fail
  refine (HP.out _).mono ?_
  rintro e w1 ⟨rfl, rfl⟩
  clear HP
  go_wp2_with fail
  refine (HV.out _).mono ?_
  rintro e w1 ⟨rfl, rfl⟩
  clear HV
  go_wp2_with fail
  refine (HL.out _).mono ?_
  rintro e w1 ⟨rfl, hb1⟩
  have Hb1 := Lib.hid hb1
  have HA1 := Lib.hid (HA.out.below hb1)
  clear HL HA hb1
  go_wp2_with fail
  refine (HU.out _).mono ?_
  rintro e w2 ⟨rfl, hb2⟩
  have c4 := (HA1.out.below hb2).c4
  have Hb2 := Lib.hid (Hb1.out.trans (hb2.mono Hb1.out.size))
  clear HU HA1 Hb1 hb2
  go_wp2_with fail
  go_ret
  exact ⟨rfl, Hb2.out⟩
theorem fault_any (s : ByteArray) (w : World) (a : Fin 5 → Addr) (hA : At w a) (hs : s.size ≤ maxLen) :
    Calls Tryd.prog 41 #[.string s] w fun e w' => e = .returned (faultV a (readF s).2) ∧ Below w.heap.size w w' := by
  by_cases h0 : s.size < 14
  · rw [read_short h0]
    exact ff_short s w a hA hs h0
  by_cases h1 : s.extract 0 5 = magic
  case neg =>
    rw [read_magic h0 h1]
    exact ff_magic s w a hA hs h0 h1
  by_cases h2 : 1 ≤ at_ s 5 ∧ at_ s 5 ≤ 9
  case neg =>
    rw [read_version h0 h1 h2]
    exact ff_version s w a hA hs h0 h1 _ rfl (by omega)
  obtain ⟨n, hn⟩ : ∃ n, s.size = n + 14 := ⟨s.size - 14, by omega⟩
  have HR := Lib.hid (fun w => fixed.impl_read s 6 4 w hs)
  rw [read_four (by omega), arith.two_some] at HR
  by_cases h3 : val s 6 4 = (s.size : Int) - 14 ∧ s.size ≤ 19994
  case neg =>
    rw [read_length h0 h1 h2 h3]
    refine ff_length s w a hA hs h0 h1 _ rfl h2.1 h2.2 ?_
    by_cases h4 : val s 6 4 = (n : Int)
    · exact fun w => len_much s w hs n _ hn HR h4 (by omega)
    · exact fun w => len_other s w hs n _ hn HR h4
  have HL : Hid (∀ w, Calls Tryd.prog 51 #[.string s] w fun e w' => e = .returned (.bool true) ∧ Below w.heap.size w w') := fun w => len_yes s w hs n _ hn HR (by omega) (by omega)
  have HU := Lib.hid (fun w => sum_matches s w hs)
  cases h4 : (unF s).2 with
  | false =>
    rw [read_sum h0 h1 h2 h3 h4]
    rw [h4] at HU
    exact ff_sum s w a hA hs h0 h1 _ rfl h2.1 h2.2 HL HU
  | true =>
    rw [read_yes h0 h1 h2 h3 h4]
    rw [h4] at HU
    exact ff_none s w a hA hs h0 h1 _ rfl h2.1 h2.2 HL HU
/-- The results of a function that returns a frame through a cell, and something else. -/
theorem ret_frame' {fn : Func} {c u : Tmp} {tmps : Array Value} {w : World} {g : Nat} {v : Int} {p : ByteArray} {x : Value} (h : fn.results = #[.cell c 25, .tmp u])
    (hc : tmps.getD c undef = .pointer (some ⟨g, 0, none⟩)) (hu : tmps.getD u undef = x) (hg : w.heap[g]? = some (.cells #[.int .i64 v, .string p] 25 (0, 0))) :
    (results fn tmps).run Tryd.prog w = .ok (.tuple #[frV v p, x]) w := by
  have hl := run_loadVar_row (P := Tryd.prog) w g _ 25 #[.int .i64 v, .string p] (0, 0) _ hg Tryd.underlying25 rfl frame_info
  rw [results_cell_tmp h, hc, hu]
  simp [asAddr, Result.andThen, hl, frV]
theorem in_bad (s : ByteArray) (w : World) (x : Addr) (hs : s.size ≤ maxLen) (HF : Hid (∀ w', Below w.heap.size w w' → Calls Tryd.prog 41 #[.string s] w' fun e w2 => e = .returned (.iface 87 (.pointer (some x))) ∧ Below w'.heap.size w' w2)) :
    Calls Tryd.prog 30 #[.string s] w fun e w' => e = .returned (.tuple #[frV 0 ⟨#[]⟩, .iface 87 (.pointer (some x))]) ∧ Below w.heap.size w w' := by
  have Hb := Lib.hid (res_below w)
  go_enter Tryd.func30, Tryd.ntmps30
  go_wp2_with fail
  refine (HF.out _ Hb.out).mono ?_
  rintro e w1 ⟨rfl, hb1⟩
  clear HF
  have hg : w1.heap[w.heap.size]? = some (.cells #[.int .i64 0, .string ⟨#[]⟩] 25 (0, 0)) := heap_kept hb1 (by simp) (heap_alloc_new w _)
  have hbw : Below w.heap.size w w1 := Hb.out.trans (hb1.mono (by simp))
  have hn := run_eql_iface_nil (P := Tryd.prog) (w := w1) 51 (by kernel_rfl) 87 (.pointer (some x))
  clear hb1
  go_wp2_with (first | (refine wpList_store_row rfl 25 _ _ rfl w.heap.size #[.int .i64 0, .string ⟨#[]⟩] rfl rfl 25 _ hg frame_info rfl (frame_one _ _) ?_) | fail)
  refine bodyPost_ret (v := .tuple #[frV 0 ⟨#[]⟩, .iface 87 (.pointer (some x))]) ?_ rfl ⟨rfl, setRow_below hbw (Nat.le_refl _) _⟩
  exact ret_frame' rfl rfl rfl (setRow_at hg)
set_option maxRecDepth 100000 in
theorem in_yes (s : ByteArray) (w : World) (hs : s.size ≤ maxLen) (n : Nat) (hn : s.size = n + 14) (x : Int) (hx : at_ s 5 = x) (HF : Hid (∀ w', Below w.heap.size w w' → Calls Tryd.prog 41 #[.string s] w' fun e w2 => e = .returned .nilIface ∧ Below w'.heap.size w' w2)) :
    Calls Tryd.prog 30 #[.string s] w fun e w' => e = .returned (.tuple #[frV x (s.extract 10 (s.size - 4)), .nilIface]) ∧ Below w.heap.size w w' := by
  have hm := hs
  unfold maxLen at hm
  have Hb := Lib.hid (res_below w)
  have hl5 : 5 < s.size := by omega
  have eat := at_eq s 5 hl5
  have hat := at_bd s 5
  rw [hx] at eat hat
  obtain ⟨m2, hm2⟩ : ∃ m2, s.size - 4 = m2 := ⟨_, rfl⟩
  rw [hm2]
  have ewr : (s.size : Int) - 4 = (m2 : Int) := by omega
  have k0 : (10 : Int) ≤ (m2 : Int) := by omega
  have k1 : (m2 : Int) ≤ (s.size : Int) := by omega
  have k2 : (5 : Int) < (s.size : Int) := by omega
  clear hn hx hm2
  go_enter Tryd.func30, Tryd.ntmps30
  go_wp2_with fail
  refine (HF.out _ Hb.out).mono ?_
  rintro e w1 ⟨rfl, hb1⟩
  clear HF
  have hg : w1.heap[w.heap.size]? = some (.cells #[.int .i64 0, .string ⟨#[]⟩] 25 (0, 0)) := heap_kept hb1 (by simp) (heap_alloc_new w _)
  have hbw : Below w.heap.size w w1 := Hb.out.trans (hb1.mono (by simp))
  clear hb1
  go_wp2_with fail
  obtain ⟨c0, c1, f0, f1⟩ := two_cells hg
  have Hg := Lib.hid (set_two hg (.int .i64 x) (.string (s.extract 10 m2)))
  have Hbw : Hid (Below w.heap.size w ((w1.setCell ⟨w.heap.size, 0, none⟩ (.int .i64 x)).setCell ⟨w.heap.size, 1, none⟩ (.string (s.extract 10 m2)))) := (hbw.setCell (p := ⟨w.heap.size, 0, none⟩) (Nat.le_refl _) _).setCell (p := ⟨w.heap.size, 1, none⟩) (Nat.le_refl _) _
  clear hg hbw
  go_region
  go_wp2_with fail
  refine bodyPost_ret (v := .tuple #[frV x (s.extract 10 m2), .nilIface]) ?_ rfl ⟨rfl, Hbw.out.drew⟩
  exact ret_frame' rfl rfl rfl Hg.out
theorem read_bad {s : ByteArray} (h : (readF s).2 ≠ 0) : (readF s).1 = (0, ⟨#[]⟩) := by
  unfold readF at h ⊢
  split; · rfl
  split; · rfl
  split; · rfl
  split; · rfl
  split; · rfl
  rw [if_neg (by assumption), if_neg (by assumption), if_neg (by assumption), if_neg (by assumption), if_neg (by assumption)] at h
  exact absurd rfl h
theorem read_code (s : ByteArray) : 0 ≤ (readF s).2 ∧ (readF s).2 ≤ 5 := by
  unfold readF
  split; · decide
  split; · decide
  split; · decide
  split; · decide
  split; · decide
  exact ⟨show (0 : Int) ≤ 0 from Int.le_refl _, show (0 : Int) ≤ 5 by decide⟩
theorem read_good {s : ByteArray} (h : (readF s).2 = 0) : 14 ≤ s.size ∧ (readF s).1 = (at_ s 5, s.extract 10 (s.size - 4)) := by
  by_cases h0 : s.size < 14
  · rw [read_short h0] at h; exact absurd h (by decide)
  refine ⟨by omega, ?_⟩
  by_cases h1 : s.extract 0 5 = magic
  case neg => rw [read_magic h0 h1] at h; exact absurd h (by decide)
  by_cases h2 : 1 ≤ at_ s 5 ∧ at_ s 5 ≤ 9
  case neg => rw [read_version h0 h1 h2] at h; exact absurd h (by decide)
  by_cases h3 : val s 6 4 = (s.size : Int) - 14 ∧ s.size ≤ 19994
  case neg => rw [read_length h0 h1 h2 h3] at h; exact absurd h (by decide)
  cases h4 : (unF s).2 with
  | false => rw [read_sum h0 h1 h2 h3 h4] at h; exact absurd h (by decide)
  | true => rw [read_yes h0 h1 h2 h3 h4]
theorem faultV_bad (a : Fin 5 → Addr) {k : Int} (h : k ≠ 0) (hk : 0 ≤ k ∧ k ≤ 5) : ∃ x, faultV a k = .iface 87 (.pointer (some x)) := by
  obtain ⟨n, rfl⟩ := Int.eq_ofNat_of_zero_le hk.1
  match n, (show n ≤ 5 by omega) with
  | 0, _ => exact absurd rfl h
  | 1, _ => exact ⟨_, rfl⟩
  | 2, _ => exact ⟨_, rfl⟩
  | 3, _ => exact ⟨_, rfl⟩
  | 4, _ => exact ⟨_, rfl⟩
  | 5, _ => exact ⟨_, rfl⟩
theorem in_any (s : ByteArray) (w : World) (a : Fin 5 → Addr) (hA : At w a) (hs : s.size ≤ maxLen) :
    Calls Tryd.prog 30 #[.string s] w fun e w' => e = .returned (.tuple #[frV (readF s).1.1 (readF s).1.2, faultV a (readF s).2]) ∧ Below w.heap.size w w' := by
  have HF : Hid (∀ w', Below w.heap.size w w' → Calls Tryd.prog 41 #[.string s] w' fun e w2 => e = .returned (faultV a (readF s).2) ∧ Below w'.heap.size w' w2) := fun w' hb => fault_any s w' a (hA.below hb) hs
  by_cases h : (readF s).2 = 0
  · obtain ⟨h14, hr⟩ := read_good h
    rw [hr]
    rw [h] at HF ⊢
    exact in_yes s w hs (s.size - 14) (by omega) _ rfl HF
  · rw [read_bad h]
    obtain ⟨x, hx⟩ := faultV_bad a h (read_code s)
    rw [hx] at HF ⊢
    exact in_bad s w x hs HF
end Go.Proofs.YtljahpngngmecaaDoor.frame
