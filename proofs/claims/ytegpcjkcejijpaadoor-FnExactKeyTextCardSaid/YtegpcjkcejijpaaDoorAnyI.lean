/- strings.ContainsAny at "\"#\\", whatever the text holds. -/
import Derived.Test.YtegpcjkcejijpaaDoorAnyM
import Derived.Test.YtegpcjkcejijpaaDoorIter
import Derived.Test.YtegpcjkcejijpaaDoorShelf
import Derived.Laws.RangeAny
import Derived.Laws.Runes
namespace Go.Proofs.YtegpcjkcejijpaaDoor.line
open Go.ChangeShapes Go.WideShapes Go.ChangeAt Go.RowKit
set_option linter.unusedVariables false

theorem ib_none (l : List UInt8) (x : Int) (h : 128 ≤ x) (h2 : x < 256) (hl : ∀ b ∈ l, b.toNat < 128) : Lib.indexByte l x.toNat.toUInt8 = -1 := by
  induction l with
  | nil => rfl
  | cons b r ih =>
    have hb := hl b (List.mem_cons_self ..)
    have hne : ¬ b = x.toNat.toUInt8 := by
      intro e
      have := congrArg UInt8.toNat e
      simp at this
      omega
    have := ih (fun c hc => hl c (List.mem_cons_of_mem _ hc))
    unfold Lib.indexByte
    rw [this]
    simp [hne]
set_option maxHeartbeats 4000000 in
set_option maxRecDepth 100000 in
/-- A rune beyond ASCII is none of the three. -/
theorem rune_far (n : Nat) (hv : rune.valid n) (hn : 128 ≤ n) (w : World) :
    Calls Tryd.prog 45 #[.string ⟨#[34, 35, 92]⟩, .int .i32 n] w fun e w' => e = .returned (.int .i64 (-1)) ∧ Below w.heap.size w w' := by
  obtain ⟨T, L, hT, hL, hLc, hlast⟩ := enc_tail hv hn
  have hn0 : ¬ (n : Int) < 128 := by omega
  by_cases c : n = 65533
  · subst c
    clear hT hL hLc hlast T L hv hn hn0
    go_enter Tryd.func45, Tryd.ntmps45
    go_wp2_with fail
    go_loopg [5, 6] 3 (fun g _ _ wx => ∃ i : Nat, i + g = 3 ∧ wx = w.iter ⟨#[34, 35, 92]⟩ i)
    case atStart => exact ⟨0, by omega, rfl⟩
    case round =>
      obtain ⟨i, hig, rfl⟩ := hrel
      cases gk with
      | zero =>
        obtain rfl : i = 3 := by omega
        have hnx := run_next_end (P := Tryd.prog) w ⟨#[34, 35, 92]⟩ 3
        go_wp2_with fail
        go_ret
        exact ⟨rfl, (Below.refl _ _).alloc (Nat.le_refl _) _⟩
      | succ g =>
        obtain rfl | rfl | rfl : i = 0 ∨ i = 1 ∨ i = 2 := by omega
        · have hnx := fun ty => run_next_ascii (P := Tryd.prog) w ⟨#[34, 35, 92]⟩ 0 ty (by decide) (by decide)
          go_wp2_with fail
          go_roundg g
          case rel => exact ⟨1, by omega, rfl⟩
          case measure => omega
        · have hnx := fun ty => run_next_ascii (P := Tryd.prog) w ⟨#[34, 35, 92]⟩ 1 ty (by decide) (by decide)
          go_wp2_with fail
          go_roundg g
          case rel => exact ⟨2, by omega, rfl⟩
          case measure => omega
        · have hnx := fun ty => run_next_ascii (P := Tryd.prog) w ⟨#[34, 35, 92]⟩ 2 ty (by decide) (by decide)
          go_wp2_with fail
          go_roundg g
          case rel => exact ⟨3, by omega, rfl⟩
          case measure => omega
  · have c1 : ((n : Int) == 65533) = false := by rw [beq_eq_false_iff_ne]; omega
    have hnb : (n : Int) ≤ 1114111 := by unfold rune.valid at hv; omega
    have HV : Hid (∀ w, Calls Tryd.prog 55 #[.int .i32 n] w fun e w' => e = .returned (.bool true) ∧ w' = w) := by
      intro w
      refine (Tryd.utf8_ValidRune (n : Int) w).mono ?_
      rintro e w' ⟨rfl, h⟩
      refine ⟨?_, h⟩
      have hvr : Lib.validRune (n : Int) = true := by
        unfold Lib.validRune
        unfold rune.valid at hv
        rw [decide_eq_true_iff]
        omega
      rw [hvr]
    have hpos : 0 < T.size := by omega
    have hat := at_eq T (L - 1) (by omega)
    have hbd := at_bd T (L - 1)
    generalize at_ T (L - 1) = x at hat hlast hbd
    have HB : Hid (∀ (l : List UInt8) (w : World), (∀ b ∈ l, b.toNat < 128) → Calls Tryd.prog 27 #[.string ⟨l.toArray⟩, .int .u8 x] w fun e w' => e = .returned (.int .i64 (-1)) ∧ w' = w) := by
      intro l w hl
      have h := Tryd.strings_IndexByte ⟨l.toArray⟩ x w
      rw [show (⟨l.toArray⟩ : ByteArray).data.toList = l from rfl, ib_none l x hlast hbd.2 hl] at h
      exact h
    have hnn : (0 : Int) ≤ n := by omega
    clear c hv hn
    subst hT
    generalize (n : Int) = z at *
    clear hnb
    rcases hLc with rfl | rfl | rfl
    · have hb1 : ((35 : Int) != x) = true := by rw [bne, beq_eq_false_iff_ne.2 (by omega)]; rfl
      have hb2 : (((((⟨#[34, 35, 92]⟩ : ByteArray)[1]'(by decide)).toNat : Nat) : Int) != x) = true := hb1
      have ex : ((⟨#[34, 35, 92]⟩ : ByteArray).extract 2 3) = ⟨([92] : List UInt8).toArray⟩ := by rfl
      have HB1 := Lib.hid (fun w => HB.out [92] w (by decide))
      rw [← ex] at HB1
      clear ex
      have hat1 : (((Utf8.encode z)[1]'(by omega)).toNat : Int) = x := hat
      clear HB hat
      go_enter Tryd.func45, Tryd.ntmps45
      go_wp2_with fail
      refine (HV.out _).mono ?_
      rintro e w1 ⟨rfl, rfl⟩
      go_wp2_with fail
      go_step3
      go_wp2_with fail
      go_loop [9, 10] (fun i f => i = .int .i64 1 ∧ f = .int .i64 0) (fun i f => 0)
      case atStart => exact ⟨rfl, rfl⟩
      case round =>
        obtain ⟨rfl, rfl⟩ := hrel
        go_wp2_with fail
        go_step3
        go_wp2_with fail
        go_quiet (fail)
        go_wp2_with fail
        have hbq := below_drewN (Below.refl w1.heap.size w1) nq
        generalize w1.drewN nq = w2 at hbq ⊢
        go_quiet ((go_at_call 27; exact Calls.quiet_of_same (HB1.out _)))
        go_wp2_with fail
        change bodyPost _ _ (fun e w' => e = Ending.returned (Value.int IntKind.i64 (-1)) ∧ Below w1.heap.size w1 w') Exit.ret _ _
        go_ret
        exact ⟨rfl, below_drewN hbq _⟩
    · have hb1 : ((92 : Int) != x) = true := by rw [bne, beq_eq_false_iff_ne.2 (by omega)]; rfl
      have hb2 : (((((⟨#[34, 35, 92]⟩ : ByteArray)[2]'(by decide)).toNat : Nat) : Int) != x) = true := hb1
      have HB1 : Hid (∀ w, Calls Tryd.prog 27 #[.string ByteArray.empty, .int .u8 x] w fun e w' => e = .returned (.int .i64 (-1)) ∧ w' = w) := fun w => HB.out [] w (by decide)
      have hat1 : (((Utf8.encode z)[2]'(by omega)).toNat : Int) = x := hat
      clear HB hat
      go_enter Tryd.func45, Tryd.ntmps45
      go_wp2_with fail
      refine (HV.out _).mono ?_
      rintro e w1 ⟨rfl, rfl⟩
      go_wp2_with fail
      go_step3
      go_wp2_with fail
      go_loop [9, 10] (fun i f => i = .int .i64 2 ∧ f = .int .i64 0) (fun i f => 0)
      case atStart => exact ⟨rfl, rfl⟩
      case round =>
        obtain ⟨rfl, rfl⟩ := hrel
        go_wp2_with fail
        go_step3
        go_wp2_with fail
        go_quiet (fail)
        go_wp2_with fail
        have hbq := below_drewN (Below.refl w1.heap.size w1) nq
        generalize w1.drewN nq = w2 at hbq ⊢
        go_quiet ((go_at_call 27; exact Calls.quiet_of_same (HB1.out _)))
        go_wp2_with fail
        change bodyPost _ _ (fun e w' => e = Ending.returned (Value.int IntKind.i64 (-1)) ∧ Below w1.heap.size w1 w') Exit.ret _ _
        go_ret
        exact ⟨rfl, below_drewN hbq _⟩
    · clear HB hat
      go_enter Tryd.func45, Tryd.ntmps45
      go_wp2_with fail
      refine (HV.out _).mono ?_
      rintro e w1 ⟨rfl, rfl⟩
      go_wp2_with fail
      go_step3
      go_wp2_with fail
      go_loop [9, 10] (fun i f => i = .int .i64 3 ∧ f = .int .i64 0) (fun i f => 0)
      case atStart => exact ⟨rfl, rfl⟩
      case round =>
        obtain ⟨rfl, rfl⟩ := hrel
        go_wp2_with fail
        go_ret
        exact ⟨rfl, Below.refl _ _⟩

theorem no3_more {s : ByteArray} {i k : Nat} (h : No3 s i) (h2 : ∀ j, j < k → ¬ three (at_ s (i + j))) : No3 s (i + k) := fun j hj => by
  by_cases c : j < i
  · exact h j c
  · have := h2 (j - i) (by omega)
    rwa [show i + (j - i) = j by omega] at this
theorem zero84 (w : World) : (zeroValue 46).run Tryd.prog w = .ok (.agg (Array.replicate 256 (.bool false))) w := by kernel_rfl
set_option maxHeartbeats 4000000 in
set_option maxRecDepth 100000 in
theorem any_short (s : ByteArray) (w : World) (h8 : s.size ≤ 8) :
    Calls Tryd.prog 32 #[.string s, .string ⟨#[34, 35, 92]⟩] w fun e w' => (∃ x, e = .returned (.int .i64 x) ∧ decide (0 ≤ x) = decide (Any3 s)) ∧ Below w.heap.size w w' := by
  have HS := Lib.hid (fun w => Tryd.strings_shouldUseASCIISet (s.size : Int) w)
  have h8z : decide ((8 : Int) < (s.size : Int)) = false := decide_eq_false (by omega)
  rw [h8z] at HS
  clear h8z
  obtain ⟨R, hR⟩ : ∃ R, decide (Any3 s) = R := ⟨_, rfl⟩
  rw [hR]
  have HR := Lib.hid hR
  clear hR
  go_enter Tryd.func32, Tryd.ntmps32
  go_wp2_with fail
  refine (HS.out _).mono ?_
  rintro e w1 ⟨rfl, rfl⟩
  clear HS
  go_wp2_with fail
  go_loopg [9, 10] s.size (fun g _ _ wx => ∃ i : Nat, i + g = s.size ∧ wx.heap[w1.heap.size]? = some (.stringIter s i) ∧ Below w1.heap.size w1 wx ∧ Hid (No3 s i))
  case atStart => exact ⟨0, by omega, by rw [World.iter_heap], (Below.refl _ _).alloc (Nat.le_refl _) _, fun j hj => absurd hj (Nat.not_lt_zero j)⟩
  case round =>
    obtain ⟨i, hig, hg, hbel, hno⟩ := hrel
    by_cases hlt : i < s.size
    · obtain ⟨n, k, hd, hv, hk, hcase⟩ := dec_any s i hlt
      have hnx := fun ty => next_yes (P := Tryd.prog) wr w1.heap.size s i ty hg hlt
      rw [hd] at hnx
      simp only at hnx
      have hg2 : (stepI wr w1.heap.size s (i + k)).heap[w1.heap.size]? = some (.stringIter s (i + k)) := stepI_at hg
      have hbel2 : Below w1.heap.size w1 (stepI wr w1.heap.size s (i + k)) := stepI_below hbel (Nat.le_refl _)
      have Hg2 := Lib.hid hg2
      clear hg hbel hg2
      rcases hcase with ⟨rfl, he, h128⟩ | ⟨h128, hle, hfar⟩
      · have HX := Lib.hid (fun w => Tryd.strings_IndexRune_ascii ⟨#[34, 35, 92]⟩ (n : Int) w (by omega) (by omega))
        rw [show (⟨#[34, 35, 92]⟩ : ByteArray).data.toList = [34, 35, 92] from rfl] at HX
        have hti := three_index (n : Int) (by omega) (by omega)
        generalize Lib.indexByte [34, 35, 92] (n : Int).toNat.toUInt8 = y at HX hti
        have Hbel2 := Lib.hid hbel2
        clear hbel2
        by_cases c : three (n : Int)
        · rw [decide_eq_true c] at hti
          have hy : 0 ≤ y := of_decide_eq_true hti
          have H : Hid (R = true) := by unfold Hid; rw [← HR.out]; exact decide_eq_true ⟨i, hlt, by rw [← he]; exact c⟩
          clear hti c he hno HR hd hv
          go_wp2_with fail
          refine (HX.out _).mono ?_
          rintro e w2 ⟨rfl, rfl⟩
          clear HX
          go_wp2_with fail
          go_ret
          exact ⟨⟨_, rfl, by rw [H.out]; simp⟩, Hbel2.out⟩
        · rw [decide_eq_false c] at hti
          have hy : ¬ 0 ≤ y := of_decide_eq_false hti
          have Hn : Hid (No3 s (i + 1)) := no3_more hno.out (fun j hj => by
            obtain rfl : j = 0 := Nat.lt_one_iff.1 hj
            rw [Nat.add_zero, ← he]
            exact c)
          clear hti c he hno hd hv
          go_wp2_with fail
          refine (HX.out _).mono ?_
          rintro e w2 ⟨rfl, rfl⟩
          clear HX
          go_wp2_with fail
          go_roundg (s.size - (i + 1))
          case rel => exact ⟨i + 1, by omega, Hg2.out, Hbel2.out, Hn⟩
          case measure => omega
      · have HX := Lib.hid (fun w => rune_far n hv h128 w)
        have Hn : Hid (No3 s (i + k)) := no3_more hno.out (fun j hj h => by
          have := hfar j hj
          rcases h with h | h | h <;> omega)
        clear hno hd hv hfar
        go_wp2_with fail
        refine (HX.out _).mono ?_
        rintro e w2 ⟨rfl, hb⟩
        have Hg3 : Hid (w2.heap[w1.heap.size]? = some (.stringIter s (i + k))) := iter_kept Hg2.out hb
        have Hb3 : Hid (Below w1.heap.size w1 w2) := hbel2.trans (hb.mono hbel2.size)
        clear HX hb hbel2 Hg2
        go_wp2_with fail
        go_roundg (s.size - (i + k))
        case rel => exact ⟨i + k, by omega, Hg3.out, Hb3.out, Hn⟩
        case measure => omega
    · have hnx := fun ty => next_no (P := Tryd.prog) wr w1.heap.size s i ty hg hlt
      have H : Hid (R = false) := by unfold Hid; rw [← HR.out]; exact decide_eq_false (no3_none hno.out (by omega))
      have Hb := Lib.hid hbel
      clear hg hbel hno HR
      go_wp2_with fail
      go_ret
      exact ⟨⟨_, rfl, by rw [H.out]; rfl⟩, Hb.out⟩
theorem idx_any : ∀ l : List UInt8, decide (0 ≤ Lib.indexAny l [34, 35, 92]) = l.any (fun b => [34, 35, 92].contains b)
  | [] => by decide
  | b :: r => by
    have ih := idx_any r
    have hge := Lib.indexAny_ge [34, 35, 92] r
    rw [List.any_cons]
    unfold Lib.indexAny
    cases hc : [34, 35, 92].contains b with
    | true => simp
    | false =>
      rw [if_neg (by decide)]
      by_cases e : Lib.indexAny r [34, 35, 92] = -1
      · rw [e] at ih ⊢
        rw [if_pos (by decide), Bool.false_or]
        exact ih
      · rw [if_neg (by simpa using e), Bool.false_or, ← ih]
        congr 1
        apply propext
        constructor <;> intro h <;> omega
theorem three_byte : ∀ n : Fin 256, [34, 35, 92].contains (UInt8.ofNat n.val) = decide (three (n.val : Int)) := by decide +kernel
theorem any_list (s : ByteArray) : s.data.toList.any (fun b => [34, 35, 92].contains b) = decide (Any3 s) := by
  have hb : ∀ b : UInt8, [34, 35, 92].contains b = decide (three (b.toNat : Int)) := fun b => by
    have := three_byte ⟨b.toNat, b.toNat_lt⟩
    simpa using this
  by_cases c : Any3 s
  · rw [decide_eq_true c]
    obtain ⟨k, hk, h⟩ := c
    have hl : k < s.data.toList.length := by rw [len_list]; exact hk
    refine List.any_eq_true.2 ⟨s.data.toList[k], List.getElem_mem hl, ?_⟩
    rw [hb, decide_eq_true_iff, ← byte_at s k _ (List.getElem?_eq_getElem hl)]
    exact h
  · rw [decide_eq_false c, List.any_eq_false]
    intro b hm h
    obtain ⟨k, hl, e⟩ := List.getElem_of_mem hm
    rw [hb, decide_eq_true_iff] at h
    refine c ⟨k, by rw [len_list] at hl; exact hl, ?_⟩
    rw [byte_at s k b (by rw [List.getElem?_eq_getElem hl, e])]
    exact h
theorem impl_three (s : ByteArray) (w : World) (hs : s.size ≤ 1048576) :
    Calls Tryd.prog 25 #[.string s, .string ⟨#[34, 35, 92]⟩] w fun e w' => e = .returned (.bool (decide (Any3 s))) ∧ Below w.heap.size w w' := by
  have HI : Hid (Calls Tryd.prog 32 #[.string s, .string ⟨#[34, 35, 92]⟩] w fun e w' => (∃ x, e = .returned (.int .i64 x) ∧ decide (0 ≤ x) = decide (Any3 s)) ∧ Below w.heap.size w w') := by
    by_cases c : s.size ≤ 8
    · exact any_short s w c
    · refine (Tryd.strings_IndexAny_long zero84 s ⟨#[34, 35, 92]⟩ w (by decide) (by omega) (by omega) (by decide) (fun j b h => ?_)).mono ?_
      · have hm := List.mem_of_getElem? h
        rcases List.mem_cons.1 hm with rfl | hm
        · decide
        · rcases List.mem_cons.1 hm with rfl | hm
          · decide
          · rcases List.mem_cons.1 hm with rfl | hm
            · decide
            · cases hm
      · rintro e w' ⟨rfl, rfl⟩
        exact ⟨⟨_, rfl, by rw [← any_list]; exact idx_any _⟩, ((Below.refl _ _).alloc (Nat.le_refl _) _).alloc (by simp) _⟩
  generalize decide (Any3 s) = R at HI ⊢
  go_enter Tryd.func25, Tryd.ntmps25
  go_wp2_with fail
  refine HI.out.mono ?_
  rintro e w1 ⟨⟨x, rfl, hx⟩, hb⟩
  have Hx := Lib.hid hx
  clear HI hx
  go_wp2_with fail
  go_ret
  exact ⟨by rw [← Hx.out]; rfl, hb⟩
end Go.Proofs.YtegpcjkcejijpaaDoor.line
