/- impl.ReadFrame: frameFault (the five sentinels), frameIn, frameCode. -/
import Derived.Test.YtljahpngngmecaaDoorFrOkI
import Derived.Test.YtljahpngngmecaaDoorFrReadS
import Derived.Test.YtljahpngngmecaaDoorReadFixI
import Derived.Test.YtljahpngngmecaaDoorUnI
import Derived.Test.YtljahpngngmecaaDoorSents
import Derived.Test.YtljahpngngmecaaDoorErrIs
namespace Go.Proofs.YtljahpngngmecaaDoor.frame
open Go.ChangeShapes Go.WideShapes Go.ChangeAt Go.RowKit
open crc fixed
set_option linter.unusedVariables false

def sentNames : List String := ["loop.example/g00968/impl.errFrameShort", "loop.example/g00968/impl.errFrameMagic", "loop.example/g00968/impl.errFrameVersion", "loop.example/g00968/impl.errFrameLength", "loop.example/g00968/impl.errFrameSum"]
abbrev Sent (w : World) : Prop := Sents Tryd.prog 87 sentNames w
/-- The five errors' addresses. -/
structure At (w : World) (a : Fin 5 → Addr) : Prop where
  c0 : w.cell? ⟨0, 0, none⟩ = some (.iface 87 (.pointer (some (a 0))))
  c1 : w.cell? ⟨1, 0, none⟩ = some (.iface 87 (.pointer (some (a 1))))
  c2 : w.cell? ⟨2, 0, none⟩ = some (.iface 87 (.pointer (some (a 2))))
  c3 : w.cell? ⟨3, 0, none⟩ = some (.iface 87 (.pointer (some (a 3))))
  c4 : w.cell? ⟨4, 0, none⟩ = some (.iface 87 (.pointer (some (a 4))))
  ne : ∀ i j, i ≠ j → a i ≠ a j
  row : ∀ i, ∃ c t, w.heap[(a i).block]? = some (.cells c t (0, 0))
theorem Sent.at_ {w : World} (h : Sent w) : ∃ a, At w a := by
  obtain ⟨xs, h1, h2, h3, h4⟩ := h
  match xs, h1 with
  | [a0, a1, a2, a3, a4], _ =>
  have k : ∀ (i : Nat) (n : String) (a : Addr) (g : Nat), Tryd.prog.globalNamed n = some g → sentNames[i]? = some n → [a0, a1, a2, a3, a4][i]? = some a → w.cell? ⟨g, 0, none⟩ = some (.iface 87 (.pointer (some a))) := fun i n a g hg hn ha => by
    have := World.var?_cell hg (h3 i n a hn ha) 0
    simpa using this
  refine ⟨fun i => [a0, a1, a2, a3, a4].get i, ⟨k 0 _ _ _ (by kernel_rfl) rfl rfl, k 1 _ _ _ (by kernel_rfl) rfl rfl, k 2 _ _ _ (by kernel_rfl) rfl rfl, k 3 _ _ _ (by kernel_rfl) rfl rfl, k 4 _ _ _ (by kernel_rfl) rfl rfl, ?_, ?_⟩⟩
  · intro i j hij e
    rcases Nat.lt_or_gt_of_ne (fun h => hij (Fin.ext h)) with h | h
    · exact (List.pairwise_iff_getElem.1 h2) i.1 j.1 i.2 j.2 h e
    · exact (List.pairwise_iff_getElem.1 h2) j.1 i.1 j.2 i.2 h e.symm
  · intro i
    exact h4 _ (List.get_mem _ _)
theorem At.below {w w' : World} {a : Fin 5 → Addr} (h : At w a) (hb : Below w.heap.size w w') : At w' a := by
  have k : ∀ g v, w.cell? ⟨g, 0, none⟩ = some v → w'.cell? ⟨g, 0, none⟩ = some v := fun g v e => (hb.cell (World.block_lt_of_cell? _ _ e)).trans e
  refine ⟨k _ _ h.c0, k _ _ h.c1, k _ _ h.c2, k _ _ h.c3, k _ _ h.c4, h.ne, fun i => ?_⟩
  obtain ⟨c, t, hc⟩ := h.row i
  exact ⟨c, t, heap_kept hb (Array.getElem?_eq_some_iff.1 hc).1 hc⟩
theorem At.not {w : World} {a : Fin 5 → Addr} (h : At w a) (i j : Fin 5) (hij : i ≠ j) :
    Calls Tryd.prog 42 #[.iface 87 (.pointer (some (a i))), .iface 87 (.pointer (some (a j)))] w fun e w' => e = .returned (.bool false) ∧ w = w' := by
  obtain ⟨c, t, hc⟩ := h.row i
  obtain ⟨d, u, hd⟩ := h.row j
  exact erris.is_other (a i) (a j) c d t u w (h.ne i j hij) hc hd

/-- The error that stands for a code. -/
def faultV (a : Fin 5 → Addr) (k : Int) : Value := if k = 1 then .iface 87 (.pointer (some (a 0))) else if k = 2 then .iface 87 (.pointer (some (a 1))) else if k = 3 then .iface 87 (.pointer (some (a 2))) else if k = 4 then .iface 87 (.pointer (some (a 3))) else if k = 5 then .iface 87 (.pointer (some (a 4))) else .nilIface

theorem code_nil (w : World) (a : Fin 5 → Addr) (h : At w a) :
    Calls Tryd.prog 31 #[.nilIface] w fun e w' => e = .returned (.int .i64 0) ∧ w = w' := by
  have c0 := h.c0
  have c1 := h.c1
  have c2 := h.c2
  have c3 := h.c3
  have c4 := h.c4
  have N0 := Lib.hid (fun w => erris.is_nil (a 0) w)
  have N1 := Lib.hid (fun w => erris.is_nil (a 1) w)
  have N2 := Lib.hid (fun w => erris.is_nil (a 2) w)
  have N3 := Lib.hid (fun w => erris.is_nil (a 3) w)
  have N4 := Lib.hid (fun w => erris.is_nil (a 4) w)
  clear h
  go_enter Tryd.func31, Tryd.ntmps31
  go_wp2_with fail
  refine (N0.out _).mono ?_
  rintro e w1 ⟨rfl, rfl⟩
  go_wp2_with fail
  refine (N1.out _).mono ?_
  rintro e w1 ⟨rfl, rfl⟩
  go_wp2_with fail
  refine (N2.out _).mono ?_
  rintro e w1 ⟨rfl, rfl⟩
  go_wp2_with fail
  refine (N3.out _).mono ?_
  rintro e w1 ⟨rfl, rfl⟩
  go_wp2_with fail
  refine (N4.out _).mono ?_
  rintro e w1 ⟨rfl, rfl⟩
  go_wp2_with fail
  go_ret
  exact ⟨rfl, rfl⟩
theorem code_0 (w : World) (a : Fin 5 → Addr) (h : At w a) :
    Calls Tryd.prog 31 #[.iface 87 (.pointer (some (a 0)))] w fun e w' => e = .returned (.int .i64 1) ∧ w = w' := by
  have H0 := Lib.hid (fun w => erris.is_same (a 0) w)
  have c0 := h.c0
  clear h
  go_enter Tryd.func31, Tryd.ntmps31
  go_wp2_with fail
  refine (H0.out _).mono ?_
  rintro e w1 ⟨rfl, rfl⟩
  go_wp2_with fail
  go_ret
  exact ⟨rfl, rfl⟩
theorem code_1 (w : World) (a : Fin 5 → Addr) (h : At w a) :
    Calls Tryd.prog 31 #[.iface 87 (.pointer (some (a 1)))] w fun e w' => e = .returned (.int .i64 2) ∧ w = w' := by
  have H0 := Lib.hid (h.not 1 0 (by decide))
  have H1 := Lib.hid (fun w => erris.is_same (a 1) w)
  have c0 := h.c0
  have c1 := h.c1
  clear h
  go_enter Tryd.func31, Tryd.ntmps31
  go_wp2_with fail
  refine H0.out.mono ?_
  rintro e w1 ⟨rfl, rfl⟩
  go_wp2_with fail
  refine (H1.out _).mono ?_
  rintro e w1 ⟨rfl, rfl⟩
  go_wp2_with fail
  go_ret
  exact ⟨rfl, rfl⟩
theorem code_2 (w : World) (a : Fin 5 → Addr) (h : At w a) :
    Calls Tryd.prog 31 #[.iface 87 (.pointer (some (a 2)))] w fun e w' => e = .returned (.int .i64 3) ∧ w = w' := by
  have H0 := Lib.hid (h.not 2 0 (by decide))
  have H1 := Lib.hid (h.not 2 1 (by decide))
  have H2 := Lib.hid (fun w => erris.is_same (a 2) w)
  have c0 := h.c0
  have c1 := h.c1
  have c2 := h.c2
  clear h
  go_enter Tryd.func31, Tryd.ntmps31
  go_wp2_with fail
  refine H0.out.mono ?_
  rintro e w1 ⟨rfl, rfl⟩
  go_wp2_with fail
  refine H1.out.mono ?_
  rintro e w1 ⟨rfl, rfl⟩
  go_wp2_with fail
  refine (H2.out _).mono ?_
  rintro e w1 ⟨rfl, rfl⟩
  go_wp2_with fail
  go_ret
  exact ⟨rfl, rfl⟩
theorem code_3 (w : World) (a : Fin 5 → Addr) (h : At w a) :
    Calls Tryd.prog 31 #[.iface 87 (.pointer (some (a 3)))] w fun e w' => e = .returned (.int .i64 4) ∧ w = w' := by
  have H0 := Lib.hid (h.not 3 0 (by decide))
  have H1 := Lib.hid (h.not 3 1 (by decide))
  have H2 := Lib.hid (h.not 3 2 (by decide))
  have H3 := Lib.hid (fun w => erris.is_same (a 3) w)
  have c0 := h.c0
  have c1 := h.c1
  have c2 := h.c2
  have c3 := h.c3
  clear h
  go_enter Tryd.func31, Tryd.ntmps31
  go_wp2_with fail
  refine H0.out.mono ?_
  rintro e w1 ⟨rfl, rfl⟩
  go_wp2_with fail
  refine H1.out.mono ?_
  rintro e w1 ⟨rfl, rfl⟩
  go_wp2_with fail
  refine H2.out.mono ?_
  rintro e w1 ⟨rfl, rfl⟩
  go_wp2_with fail
  refine (H3.out _).mono ?_
  rintro e w1 ⟨rfl, rfl⟩
  go_wp2_with fail
  go_ret
  exact ⟨rfl, rfl⟩
theorem code_4 (w : World) (a : Fin 5 → Addr) (h : At w a) :
    Calls Tryd.prog 31 #[.iface 87 (.pointer (some (a 4)))] w fun e w' => e = .returned (.int .i64 5) ∧ w = w' := by
  have H0 := Lib.hid (h.not 4 0 (by decide))
  have H1 := Lib.hid (h.not 4 1 (by decide))
  have H2 := Lib.hid (h.not 4 2 (by decide))
  have H3 := Lib.hid (h.not 4 3 (by decide))
  have H4 := Lib.hid (fun w => erris.is_same (a 4) w)
  have c0 := h.c0
  have c1 := h.c1
  have c2 := h.c2
  have c3 := h.c3
  have c4 := h.c4
  clear h
  go_enter Tryd.func31, Tryd.ntmps31
  go_wp2_with fail
  refine H0.out.mono ?_
  rintro e w1 ⟨rfl, rfl⟩
  go_wp2_with fail
  refine H1.out.mono ?_
  rintro e w1 ⟨rfl, rfl⟩
  go_wp2_with fail
  refine H2.out.mono ?_
  rintro e w1 ⟨rfl, rfl⟩
  go_wp2_with fail
  refine H3.out.mono ?_
  rintro e w1 ⟨rfl, rfl⟩
  go_wp2_with fail
  refine (H4.out _).mono ?_
  rintro e w1 ⟨rfl, rfl⟩
  go_wp2_with fail
  go_ret
  exact ⟨rfl, rfl⟩
theorem code_any (k : Int) (hk : 0 ≤ k ∧ k ≤ 5) (w : World) (a : Fin 5 → Addr) (h : At w a) :
    Calls Tryd.prog 31 #[faultV a k] w fun e w' => e = .returned (.int .i64 k) ∧ w = w' := by
  obtain ⟨n, rfl⟩ := Int.eq_ofNat_of_zero_le hk.1
  match n, (show n ≤ 5 by omega) with
  | 0, _ => exact code_nil w a h
  | 1, _ => exact code_0 w a h
  | 2, _ => exact code_1 w a h
  | 3, _ => exact code_2 w a h
  | 4, _ => exact code_3 w a h
  | 5, _ => exact code_4 w a h

theorem prefix_yes (s : ByteArray) (w : World) (hs : s.size ≤ maxLen) (h0 : 5 ≤ s.size) (h : s.extract 0 5 = magic) :
    Calls Tryd.prog 50 #[.string s, .string ⟨#[66, 69, 82, 84, 72]⟩] w fun e w' => e = .returned (.bool true) ∧ w = w' := by
  have hm := hs
  unfold maxLen at hm
  have h1 : s.extract 0 5 = ⟨#[66, 69, 82, 84, 72]⟩ := h
  have hd : decide (5 ≤ (s.size : Int)) = true := by simp; omega
  clear h
  go_enter Tryd.func50, Tryd.ntmps50
  go_wp2_with fail
  go_enter Tryd.func56, Tryd.ntmps56
  go_wp2_with fail
  go_ret
  exact ⟨rfl, rfl⟩
theorem prefix_no (s : ByteArray) (w : World) (hs : s.size ≤ maxLen) (h0 : 5 ≤ s.size) (h : ¬ s.extract 0 5 = magic) :
    Calls Tryd.prog 50 #[.string s, .string ⟨#[66, 69, 82, 84, 72]⟩] w fun e w' => e = .returned (.bool false) ∧ w = w' := by
  have hm := hs
  unfold maxLen at hm
  obtain ⟨m1, m2⟩ := magic_ne h
  have hd : decide (5 ≤ (s.size : Int)) = true := by simp; omega
  clear h
  go_enter Tryd.func50, Tryd.ntmps50
  go_wp2_with fail
  go_enter Tryd.func56, Tryd.ntmps56
  go_wp2_with fail
  go_ret
  exact ⟨rfl, rfl⟩
theorem len_other (s : ByteArray) (w : World) (hs : s.size ≤ maxLen) (n : Nat) (m : Int) (hn : s.size = n + 14) (HR : Hid (∀ w, Calls Tryd.prog 57 #[.string s, .int .i64 6, .int .i64 4] w fun e w' => e = .returned (.tuple #[.int .i64 m, .bool true]) ∧ Below w.heap.size w w')) (h : ¬ m = (n : Int)) :
    Calls Tryd.prog 51 #[.string s] w fun e w' => e = .returned (.bool false) ∧ Below w.heap.size w w' := by
  have hm := hs
  unfold maxLen at hm
  have en : (s.size : Int) - 14 = (n : Int) := by omega
  have hne : (m == (n : Int)) = false := beq_eq_false_iff_ne.2 h
  clear hn
  go_enter Tryd.func51, Tryd.ntmps51
  go_wp2_with fail
  refine (HR.out _).mono ?_
  rintro e w1 ⟨rfl, hb1⟩
  clear HR
  go_wp2_with fail
  go_ret
  exact ⟨rfl, hb1⟩
theorem len_much (s : ByteArray) (w : World) (hs : s.size ≤ maxLen) (n : Nat) (m : Int) (hn : s.size = n + 14) (HR : Hid (∀ w, Calls Tryd.prog 57 #[.string s, .int .i64 6, .int .i64 4] w fun e w' => e = .returned (.tuple #[.int .i64 m, .bool true]) ∧ Below w.heap.size w w')) (h : m = (n : Int)) (h2 : 19980 < n) :
    Calls Tryd.prog 51 #[.string s] w fun e w' => e = .returned (.bool false) ∧ Below w.heap.size w w' := by
  have hm := hs
  unfold maxLen at hm
  have en : (s.size : Int) - 14 = (n : Int) := by omega
  subst h
  have hd : decide ((n : Int) ≤ 19980) = false := by simp; omega
  clear hn
  go_enter Tryd.func51, Tryd.ntmps51
  go_wp2_with fail
  refine (HR.out _).mono ?_
  rintro e w1 ⟨rfl, hb1⟩
  clear HR
  go_wp2_with fail
  go_ret
  exact ⟨rfl, hb1⟩
theorem len_yes (s : ByteArray) (w : World) (hs : s.size ≤ maxLen) (n : Nat) (m : Int) (hn : s.size = n + 14) (HR : Hid (∀ w, Calls Tryd.prog 57 #[.string s, .int .i64 6, .int .i64 4] w fun e w' => e = .returned (.tuple #[.int .i64 m, .bool true]) ∧ Below w.heap.size w w')) (h : m = (n : Int)) (h2 : n ≤ 19980) :
    Calls Tryd.prog 51 #[.string s] w fun e w' => e = .returned (.bool true) ∧ Below w.heap.size w w' := by
  have hm := hs
  unfold maxLen at hm
  have en : (s.size : Int) - 14 = (n : Int) := by omega
  subst h
  have hd : decide ((n : Int) ≤ 19980) = true := by simp; omega
  clear hn
  go_enter Tryd.func51, Tryd.ntmps51
  go_wp2_with fail
  refine (HR.out _).mono ?_
  rintro e w1 ⟨rfl, hb1⟩
  clear HR
  go_wp2_with fail
  go_ret
  exact ⟨rfl, hb1⟩
theorem sum_matches (s : ByteArray) (w : World) (hs : s.size ≤ maxLen) :
    Calls Tryd.prog 52 #[.string s] w fun e w' => e = .returned (.bool (unF s).2) ∧ Below w.heap.size w w' := by
  have HU := Lib.hid (fun w => impl_un s w hs)
  generalize unF s = r at HU
  go_enter Tryd.func52, Tryd.ntmps52
  go_wp2_with fail
  refine (HU.out _).mono ?_
  rintro e w1 ⟨rfl, hb1⟩
  clear HU
  go_wp2_with fail
  go_ret
  exact ⟨rfl, hb1⟩
end Go.Proofs.YtljahpngngmecaaDoor.frame
