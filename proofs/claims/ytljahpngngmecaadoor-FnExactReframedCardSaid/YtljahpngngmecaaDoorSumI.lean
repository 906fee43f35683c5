/- impl.wordOk, impl.halfSums, impl.SumMore, impl.SumOf. -/
import Derived.Test.YtljahpngngmecaaDoorSumM
import Derived.Test.YtljahpngngmecaaDoorRows
import Derived.ProofKit
import Derived.OpenShut
import Derived.Deep.WholeRow
namespace Go.Proofs.YtljahpngngmecaaDoor.crc
open Go.ChangeShapes Go.WideShapes Go.ChangeAt Go.RowKit
set_option linter.unusedVariables false

theorem word_yes (n : Int) (w : World) (h1 : 0 ≤ n) (h2 : n ≤ 4294967295) :
    Calls Tryd.prog 44 #[.int .i64 n] w fun e w' => e = .returned (.bool true) ∧ w = w' := by
  go_enter Tryd.func44, Tryd.ntmps44
  go_wp2
  all_goals go_ret
  all_goals exact ⟨rfl, rfl⟩
theorem word_no (n : Int) (w : World) (h : n < 0 ∨ 4294967295 < n) :
    Calls Tryd.prog 44 #[.int .i64 n] w fun e w' => e = .returned (.bool false) ∧ w = w' := by
  by_cases h1 : n < 0
  · go_enter Tryd.func44, Tryd.ntmps44
    go_wp2
    all_goals go_ret
    all_goals exact ⟨rfl, rfl⟩
  · have h2 : 4294967295 < n := by omega
    have hd : decide (n ≤ 4294967295) = false := by simp; omega
    go_enter Tryd.func44, Tryd.ntmps44
    go_wp2
    all_goals go_ret
    all_goals exact ⟨rfl, rfl⟩

/-! The table of the 16 half bytes. -/
theorem tabinfo : (Tryd.prog.info? 67).map (fun i => (i.zero, i.size)) = some (some (.agg (List.replicate 16 (Value.int .i64 0)).toArray), 16) := by kernel_rfl
def half_ (j : Nat) : Value := .int .i64 (Zk 4 j : Nat)
/-- The table when i of its cells are done. -/
def tabL (i : Nat) : List Value := (List.range i).map half_ ++ List.replicate (16 - i) (.int .i64 0)
def tabA : Array Value := (tabL 16).toArray
theorem tabL_length (i : Nat) (h : i ≤ 16) : (tabL i).length = 16 := by unfold tabL; simp; omega
theorem tab_set (i : Nat) (h : i < 16) : (tabL i).toArray.setIfInBounds i (half_ i) = (tabL (i + 1)).toArray := by
  rw [List.setIfInBounds_toArray]
  congr 1
  obtain ⟨m, hm⟩ : ∃ m, 16 - i = m + 1 := ⟨15 - i, by omega⟩
  unfold tabL
  rw [hm, show 16 - (i + 1) = m by omega, List.range_succ, List.map_append, List.replicate_succ]
  simp [List.set_append]
theorem tab_get (k : Nat) (h : k < 16) : tabA[k]? = some (half_ k) := by
  unfold tabA tabL
  simp [h]
theorem tab_one (i : Nat) : (tabL i).toArray.all (·.oneCell') = true := by
  rw [Array.all_eq_true_iff_forall_mem]
  intro v hv
  unfold tabL at hv
  simp at hv
  rcases hv with ⟨j, _, rfl⟩ | ⟨_, rfl⟩ <;> rfl

/-- The table made whole, copied into the result's cell. -/
theorem tab_out (w w1 wr : World) (hw1 : w1 = w.alloc (.cells (tabL 0).toArray 67)) (hwr : wr = w1.alloc (.cells (tabL 16).toArray 67)) :
    wr.heap[w.heap.size + 1]? = some (.cells tabA 67 (0, 0)) ∧ wr.heap[w.heap.size]? = some (.cells (tabL 0).toArray 67 (0, 0)) ∧
    (wr.setRow w.heap.size tabA).heap[w.heap.size]? = some (.cells tabA 67 (0, 0)) ∧ Below w.heap.size w (wr.setRow w.heap.size tabA) := by
  have hs1 : w1.heap.size = w.heap.size + 1 := by subst hw1; simp
  have hb1 : Below w.heap.size w wr := by
    subst hwr
    subst hw1
    exact ((Below.refl _ _).alloc (Nat.le_refl _) _).alloc (by simp) _
  have hg : wr.heap[w.heap.size]? = some (.cells (tabL 0).toArray 67 (0, 0)) := by
    subst hwr
    rw [Below.heap_alloc w1 _ _ (by omega)]
    subst hw1
    exact heap_alloc_last w _
  refine ⟨?_, hg, ?_, setRow_below hb1 (Nat.le_refl _) tabA⟩
  · subst hwr
    rw [← hs1]
    exact heap_alloc_last w1 _
  · simp only [World.setRow, Array.getElem?_modify, if_true]
    rw [hg]
    rfl
theorem tab_size : tabA.size = 16 := by unfold tabA; rw [List.size_toArray, tabL_length 16 (by decide)]
theorem tab_info : (Tryd.prog.info? 67).map (·.size) = some tabA.size := by rw [(zero_of_info tabinfo).2, tab_size]
theorem tab_old : (tabL 0).toArray.size = tabA.size := by rw [tab_size, List.size_toArray, tabL_length 0 (by decide)]
/-- One cell of it. -/
theorem tab_step (w w1 : World) (hs1 : w1.heap.size = w.heap.size + 1) (i : Nat) (hi : i < 16) :
    (w1.alloc (.cells (tabL i).toArray 67)).cell? ⟨w.heap.size + 1, i, none⟩ = some (.int .i64 0) ∧ (w1.alloc (.cells (tabL i).toArray 67)).frozen? ⟨w.heap.size + 1, i, none⟩ = false ∧
    (w1.alloc (.cells (tabL i).toArray 67)).setCell ⟨w.heap.size + 1, i, none⟩ (.int .i64 (Zk 4 i : Nat)) = w1.alloc (.cells (tabL (i + 1)).toArray 67) := by
  rw [← hs1]
  refine ⟨?_, ?_, ?_⟩
  · rw [cell_of_row _ _ i (tabL i).toArray _ (0, 0) (heap_alloc_last w1 _)]
    unfold tabL
    have h1 : i - ((List.range i).map half_).length = 0 := by simp
    show (((List.range i).map half_ ++ List.replicate (16 - i) (Value.int .i64 0)).toArray)[i]? = _
    rw [List.getElem?_toArray, List.getElem?_append_right (by simp), h1, List.getElem?_replicate, if_pos (by omega)]
  · have h1 := heap_alloc_last w1 (.cells (tabL i).toArray 67)
    unfold World.frozen?
    rw [h1]
    rfl
  · rw [World.setCell_alloc_at _ _ _ _ _ rfl, ← tab_set i hi]
    rfl

set_option maxRecDepth 100000 in
theorem halves (w : World) :
    Calls Tryd.prog 45 #[] w fun e w' => e = .returned (.agg tabA) ∧ Below w.heap.size w w' := by
  obtain ⟨hz, hsz⟩ := zero_of_info tabinfo
  go_enter Tryd.func45, Tryd.ntmps45
  go_wp2_with fail
  obtain ⟨w1, hw1⟩ : ∃ w1, w1 = w.alloc (.cells (tabL 0).toArray 67) := ⟨_, rfl⟩
  have hs1 : w1.heap.size = w.heap.size + 1 := by subst hw1; simp
  have Hw1 := Lib.hid hw1
  have Hstep := Lib.hid (tab_step w w1 hs1)
  have Hend := Lib.hid (fun wr h => tab_out w w1 wr hw1 h)
  clear hw1 hs1 hz hsz
  go_loopw [5] (fun j wr => ∃ i : Nat, i ≤ 16 ∧ j = .int .i64 i ∧ wr = w1.alloc (.cells (tabL i).toArray 67)) (fun j _ => 16 - (intOf j).toNat)
  case atStart => exact ⟨0, by omega, rfl, by rw [Hw1.out]; rfl⟩
  case round =>
    clear Hw1
    obtain ⟨i, hi, rfl, hwr⟩ := hrel
    by_cases hlt : i < 16
    · obtain ⟨hc, hf, hset⟩ := Hstep.out i hlt
      rw [← hwr] at hc hf hset
      have Hset := Lib.hid hset
      have Hc := Lib.hid hc
      have Hf := Lib.hid hf
      clear hwr hset hc hf
      go_wp2_with fail
      go_loop [3, 9] (fun x j => ∃ k : Nat, k ≤ 4 ∧ j = .int .i64 k ∧ x = .int .i64 (Zk k i : Nat)) (fun _ j => 4 - (intOf j).toNat)
      case atStart => exact ⟨0, by omega, rfl, rfl⟩
      case round =>
        obtain ⟨k, hk, rfl, rfl⟩ := hrel
        have hzl := Zk_lt k (show i < 4294967296 by omega)
        by_cases hlt2 : k < 4
        · have Hz := Lib.hid (Zk_succ k i)
          generalize Zk k i = z at Hz hzl
          have e2 := and1 z hzl
          rcases Nat.mod_two_eq_zero_or_one z with ho | ho
          · rw [ho] at e2
            rw [Z_even ho] at Hz
            go_wp2_with fail
            go_round
            case rel => exact ⟨k + 1, by omega, by go_num, by rw [Hz.out, Int.natCast_ediv]; rfl⟩
            case measure => simp [intOf]; omega
          · rw [ho] at e2
            rw [Z_odd ho] at Hz
            have e3 := xor_half z (by omega)
            go_wp2_with fail
            go_round
            case rel => exact ⟨k + 1, by omega, by go_num, by rw [Hz.out]⟩
            case measure => simp [intOf]; omega
        · obtain rfl : k = 4 := by omega
          have hc := Hc.out
          have hf := Hf.out
          go_wp2_with fail
          go_roundw
          case rel => exact ⟨i + 1, by omega, by go_num, Hset.out⟩
          case measure => simp [intOf]; omega
    · obtain rfl : i = 16 := by omega
      obtain ⟨hg1, hg0, hg3, hb3⟩ := Hend.out _ hwr
      have Hg3 := Lib.hid hg3
      have Hb3 := Lib.hid hb3
      clear hwr hg3 hb3
      go_wp2_with (first | (refine wpList_load_row rfl 67 _ rfl (w.heap.size + 1) rfl 67 tabA (0, 0) _ hg1 Tryd.underlying67 rfl tab_info ?_) | (refine wpList_store_row rfl 67 _ _ rfl w.heap.size tabA rfl rfl 67 _ hg0 tab_info tab_old (tab_one 16) ?_) | fail)
      refine bodyPost_ret (v := .agg tabA) ?_ rfl ⟨rfl, Hb3.out⟩
      exact results_cell_row rfl _ _ w.heap.size _ tabA (0, 0) _ rfl Hg3.out Tryd.underlying67 rfl tab_info

theorem half_step (q : Nat) (hq : q < 4294967296) : ∃ m t : Nat, m < 16 ∧ bits .and .i64 (q : Int) 15 = (m : Int) ∧ (m < 16 → half_ m = .int .i64 t) ∧ bits .xor .i64 ((q : Int) / 16) (t : Int) = ((Zk 4 q : Nat) : Int) := by
  have e := xor_int (q / 16) (Zk 4 (q % 16)) (by omega) (Zk_lt 4 (by omega))
  rw [← half, Int.natCast_ediv] at e
  exact ⟨q % 16, Zk 4 (q % 16), by omega, and15 q hq, fun _ => rfl, e⟩

set_option maxRecDepth 100000 in
theorem impl_more_in (r : Nat) (s : ByteArray) (w : World) (hs : s.size ≤ maxLen) (hr : r < 4294967296) :
    Calls Tryd.prog 33 #[.int .i64 r, .string s] w fun e w' => e = .returned (.int .i64 (moreF r s)) ∧ Below w.heap.size w w' := by
  have hm := hs
  unfold maxLen at hm
  obtain ⟨hz, hsz⟩ := zero_of_info tabinfo
  have HI := Lib.hid (fun w => word_yes r w (by omega) (by omega))
  have HT := Lib.hid (fun w => halves w)
  rw [moreF_nat r s hr, ← pre_all]
  go_enter Tryd.func33, Tryd.ntmps33
  go_wp2_with fail
  refine (HI.out _).mono ?_
  rintro e w1 ⟨rfl, rfl⟩
  clear HI
  go_wp2_with fail
  refine (HT.out _).mono ?_
  rintro e w1 ⟨rfl, hb1⟩
  clear HT
  go_wp2_with (first | (refine wpList_store_row rfl 67 _ _ rfl w1.heap.size tabA rfl rfl 67 _ (heap_alloc_last w1 _) tab_info (by rw [tab_size]; rfl) (tab_one 16) ?_; rw [World.setRow_alloc_new]; generalize hw2 : w1.alloc (.cells tabA 67) = w2) | fail)
  have Hb2 : Hid (Below w.heap.size w w2) := by subst hw2; exact hb1.alloc hb1.size _
  have Hc : Hid (∀ k, k < 16 → w2.cell? ⟨w1.heap.size, k, none⟩ = some (half_ k)) := fun k hk => by
    subst hw2
    rw [cell_of_row _ _ k tabA _ (0, 0) (heap_alloc_last w1 _)]
    exact tab_get k hk
  clear hb1 hz hsz hw2
  go_loop [0, 13] (fun x j => ∃ i : Nat, i ≤ s.size ∧ j = .int .i64 i ∧ x = .int .i64 (pre r s i : Nat)) (fun _ j => s.size - (intOf j).toNat)
  case atStart => exact ⟨0, Nat.zero_le _, rfl, rfl⟩
  case round =>
    obtain ⟨i, hi, rfl, rfl⟩ := hrel
    by_cases hlt : i < s.size
    · have Hp := Lib.hid (pre_succ r s i hlt)
      have hp := pre_lt s i hr
      generalize pre r s i = p at Hp hp
      have hg := s[i].toNat_lt
      have hx := xor_int p s[i].toNat hp (by omega)
      have hxl := xor_lt (b := s[i].toNat) hp (by omega)
      generalize hgn : s[i].toNat = g at Hp hg hx hxl
      rw [step_halves] at Hp
      generalize p ^^^ g = q at Hp hx hxl
      obtain ⟨m, t, hm1, ha1, ht1, hx1⟩ := half_step q hxl
      have hc1 := Hc.out m hm1
      rw [ht1 hm1] at hc1
      have hzl := Zk_lt 4 hxl
      generalize Zk 4 q = z at Hp hx1 hzl
      obtain ⟨m2, t2, hm2, ha2, ht2, hx2⟩ := half_step z hzl
      have hc2 := Hc.out m2 hm2
      rw [ht2 hm2] at hc2
      generalize Zk 4 z = z2 at Hp hx2
      clear ht1 ht2
      go_wp2_with fail
      go_round
      case rel => exact ⟨i + 1, by omega, by go_num, by rw [Hp.out]⟩
      case measure => simp [intOf]; omega
    · obtain rfl : i = s.size := by omega
      go_wp2_with fail
      go_ret
      exact ⟨rfl, Hb2.out⟩
theorem impl_more (n : Int) (s : ByteArray) (w : World) (hs : s.size ≤ maxLen) :
    Calls Tryd.prog 33 #[.int .i64 n, .string s] w fun e w' => e = .returned (.int .i64 (moreF n s)) ∧ Below w.heap.size w w' := by
  by_cases h : 0 ≤ n ∧ n ≤ 4294967295
  · obtain ⟨r, rfl⟩ := Int.eq_ofNat_of_zero_le h.1
    exact impl_more_in r s w hs (by omega)
  · have HI := Lib.hid (fun w => word_no n w (by omega))
    rw [moreF_no s (by omega)]
    clear h
    go_enter Tryd.func33, Tryd.ntmps33
    go_wp2_with fail
    refine (HI.out _).mono ?_
    rintro e w1 ⟨rfl, rfl⟩
    clear HI
    go_wp2_with fail
    go_ret
    exact ⟨rfl, Below.refl _ _⟩
theorem impl_sum (s : ByteArray) (w : World) (hs : s.size ≤ maxLen) :
    Calls Tryd.prog 18 #[.string s] w fun e w' => e = .returned (.int .i64 (sumF s)) ∧ Below w.heap.size w w' := by
  have HM := Lib.hid (fun w => impl_more 4294967295 s w hs)
  have e := sumF_eq s
  generalize moreF 4294967295 s = m at HM e
  generalize sumF s = r at e
  go_enter Tryd.func18, Tryd.ntmps18
  go_wp2_with fail
  refine (HM.out _).mono ?_
  rintro e w1 ⟨rfl, hb⟩
  clear HM
  go_wp2_with fail
  go_ret
  exact ⟨rfl, hb⟩
end Go.Proofs.YtljahpngngmecaaDoor.crc
