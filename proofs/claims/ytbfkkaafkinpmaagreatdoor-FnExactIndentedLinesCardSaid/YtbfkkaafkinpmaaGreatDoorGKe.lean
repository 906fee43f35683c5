/- Merged: KeI AnyM AnyI. -/
import Derived.Test.YtbfkkaafkinpmaaGreatDoorGLine
import Derived.Test.YtbfkkaafkinpmaaGreatDoorShelf
import Derived.Test.YtbfkkaafkinpmaaGreatDoorGSc
import Derived.Test.YtbfkkaafkinpmaaGreatDoorGRn
import Derived.Laws.RangeAny
import Derived.Laws.Runes
namespace Go.Proofs.YtbfkkaafkinpmaaGreatDoor.line
open Go.ChangeShapes Go.WideShapes Go.ChangeAt Go.RowKit
set_option linter.unusedVariables false

/-- What strings.Index reads of memory: an int. -/
def MaxL (w : World) : Prop := ∃ m : Int, w.cell? ⟨0, 0, none⟩ = some (.int .i64 m)
theorem MaxL.below {w w' : World} (h : MaxL w) (hb : Below w.heap.size w w') : MaxL w' := by
  obtain ⟨m, h⟩ := h
  exact ⟨m, (hb.cell (World.block_lt_of_cell? _ _ h)).trans h⟩
theorem MaxL.of_shaped {w : World} (h : w.ShapedOpen Tryz.prog) : MaxL w := Tryz.laysM143.s1_3 w h

theorem impl_ke (s : ByteArray) (w : World) (hs : s.size ≤ 1048576) (hM : MaxL w) :
    Calls Tryz.prog 71 #[.string s] w fun e w' => e = .returned (.int .i64 (ke s)) ∧ w = w' := by
  obtain ⟨m, hm⟩ := hM
  have HI := Lib.hid (Tryz.strings_Index s ⟨#[58, 32]⟩ m w (by omega) hm)
  have HF := Lib.hid (Tryz.strings_HasSuffix s ⟨#[58]⟩ w (by omega))
  rw [show (⟨#[58, 32]⟩ : ByteArray).data.toList = [58, 32] from rfl] at HI
  rw [show (⟨#[58]⟩ : ByteArray).data.toList = [58] from rfl] at HF
  clear hm
  rcases ke_index s with ⟨h0, h1⟩ | ⟨h0, h1, h2, h3⟩ | ⟨h0, h1, h2⟩
  · generalize Lib.index s.data.toList [58, 32] = x at HI h0 h1
    clear HF
    have H := Lib.hid h1
    clear h1
    go_enter Tryz.func71, Tryz.ntmps71
    go_wp2_with fail
    refine HI.out.mono ?_
    rintro e w1 ⟨rfl, rfl⟩
    clear HI
    go_wp2_with fail
    go_ret
    exact ⟨by rw [← H.out]; rfl, rfl⟩
  · rw [h0] at HI
    rw [h1] at HF
    have H := Lib.hid h3
    clear h3 h0 h1
    go_enter Tryz.func71, Tryz.ntmps71
    go_wp2_with fail
    refine HI.out.mono ?_
    rintro e w1 ⟨rfl, rfl⟩
    clear HI
    go_wp2_with fail
    refine HF.out.mono ?_
    rintro e w1 ⟨rfl, rfl⟩
    clear HF
    go_wp2_with fail
    go_ret
    refine ⟨?_, rfl⟩
    rw [H.out]
    refine ret_int ?_
    omega
  · rw [h0] at HI
    rw [h1] at HF
    have H := Lib.hid h2
    clear h2 h0 h1
    go_enter Tryz.func71, Tryz.ntmps71
    go_wp2_with fail
    refine HI.out.mono ?_
    rintro e w1 ⟨rfl, rfl⟩
    clear HI
    go_wp2_with fail
    refine HF.out.mono ?_
    rintro e w1 ⟨rfl, rfl⟩
    clear HF
    go_wp2_with fail
    go_ret
    exact ⟨by rw [H.out]; rfl, rfl⟩

/-- A byte below 32. -/
def Ctl (s : ByteArray) : Prop := ∃ k, k < s.size ∧ at_ s k < 32
noncomputable instance (s : ByteArray) : Decidable (Ctl s) := Classical.propDecidable _
theorem impl_ctl (s : ByteArray) (w : World) (hs : s.size ≤ 1048576) :
    Calls Tryz.prog 78 #[.string s] w fun e w' => e = .returned (.bool (decide (Ctl s))) ∧ w = w' := by
  obtain ⟨R, hR⟩ : ∃ R, decide (Ctl s) = R := ⟨_, rfl⟩
  rw [hR]
  have HR := Lib.hid hR
  clear hR
  go_enter Tryz.func78, Tryz.ntmps78
  go_wp2_with fail
  go_loop [6] (fun i => ∃ k : Nat, i = .int .i64 k ∧ k ≤ s.size ∧ Hid (∀ j, j < k → ¬ at_ s j < 32)) (fun i => s.size - (intOf i).toNat)
  case atStart => exact ⟨0, rfl, Nat.zero_le _, fun j h => absurd h (Nat.not_lt_zero j)⟩
  case round =>
    obtain ⟨k, rfl, hk, hl⟩ := hrel
    by_cases hlt : k < s.size
    · have hat := at_eq s k hlt
      by_cases c1 : at_ s k < 32
      · have H : Hid (R = true) := by unfold Hid; rw [← HR.out]; exact decide_eq_true ⟨k, hlt, c1⟩
        clear HR hl
        go_wp2_with fail
        go_ret
        exact ⟨by rw [H.out]; rfl, rfl⟩
      · have H : Hid (∀ j, j < k + 1 → ¬ at_ s j < 32) := fun j hj => by
          by_cases e : j = k
          · rw [e]; exact c1
          · exact hl.out j (by omega)
        clear hl
        go_wp2_with fail
        go_round
        case rel => exact ⟨k + 1, by go_num, by omega, H⟩
        case measure => simp [intOf]; omega
    · have H : Hid (R = false) := by
        unfold Hid
        rw [← HR.out]
        refine decide_eq_false ?_
        rintro ⟨j, hj, h⟩
        exact hl.out j (by omega) h
      clear HR hl
      go_wp2_with fail
      go_ret
      exact ⟨by rw [H.out]; rfl, rfl⟩
end Go.Proofs.YtbfkkaafkinpmaaGreatDoor.line
namespace Go.Proofs.YtbfkkaafkinpmaaGreatDoor.line
open Go.ChangeShapes Go.WideShapes Go.ChangeAt Go.RowKit
set_option linter.unusedVariables false

/-- One of the three. -/
def three (x : Int) : Prop := x = 34 ∨ x = 35 ∨ x = 92
instance (x : Int) : Decidable (three x) := by unfold three; exact inferInstance
def Any3 (s : ByteArray) : Prop := ∃ k, k < s.size ∧ three (at_ s k)
noncomputable instance (s : ByteArray) : Decidable (Any3 s) := Classical.propDecidable _
def No3 (s : ByteArray) (i : Nat) : Prop := ∀ j, j < i → ¬ three (at_ s j)
theorem no3_none {s : ByteArray} {i : Nat} (h : No3 s i) (hi : s.size ≤ i) : ¬ Any3 s := by
  rintro ⟨k, hk, h2⟩
  exact h k (by omega) h2
theorem three_all : ∀ n : Fin 256, decide (0 ≤ Lib.indexByte [34, 35, 92] (UInt8.ofNat n.val)) = decide (three (n.val : Int)) := by decide +kernel
theorem three_index (x : Int) (h0 : 0 ≤ x) (h1 : x < 256) : decide (0 ≤ Lib.indexByte [34, 35, 92] x.toNat.toUInt8) = decide (three x) := by
  have h := three_all ⟨x.toNat, by omega⟩
  simp only at h
  have e : ((x.toNat : Nat) : Int) = x := by omega
  rw [e] at h
  exact h
theorem dec_any (s : ByteArray) (i : Nat) (h : i < s.size) : ∃ n k : Nat, Utf8.decode s i = (n, k) ∧ rune.valid n ∧ 0 < k ∧
    ((k = 1 ∧ (n : Int) = at_ s i ∧ n < 128) ∨ (128 ≤ n ∧ i + k ≤ s.size ∧ ∀ j, j < k → 128 ≤ at_ s (i + j))) := by
  rcases rune.decode_is s i h with ⟨h1, e⟩ | ⟨e, h1⟩
  · refine ⟨(Utf8.decode s i).1, (Utf8.decode s i).2, rfl, h1.1, by rw [e]; exact rune.enc_pos _, ?_⟩
    by_cases c : (Utf8.decode s i).1 < 128
    · left
      have := rune.enc1 c
      have h3 := h1.2.2 0 (rune.enc_pos _)
      rw [this] at h3
      rw [e, this]
      exact ⟨rfl, h3.symm, c⟩
    · right
      refine ⟨by omega, by rw [e]; exact h1.2.1, fun j hj => ?_⟩
      rw [e] at hj
      rw [h1.2.2 j hj, List.getD_eq_getElem?_getD, List.getElem?_eq_getElem hj, Option.getD_some]
      have := quote.enc_hi h1.1 (by omega) _ (List.getElem_mem hj)
      omega
  · refine ⟨65533, 1, e, by unfold rune.valid; omega, by omega, .inr ⟨by omega, by omega, fun j hj => ?_⟩⟩
    obtain rfl : j = 0 := by omega
    rw [Nat.add_zero]
    rcases Int.lt_or_le (at_ s i) 128 with c | c
    · have b := at_bd s i
      exact absurd (rune.is_of1 (n := (at_ s i).toNat) (by omega) (by omega) (by omega)) (h1 _)
    · exact c
theorem enc_tail {n : Nat} (h : rune.valid n) (h1 : 128 ≤ n) : ∃ (T : ByteArray) (L : Nat), Utf8.encode (n : Int) = T ∧ T.size = L ∧ (L = 2 ∨ L = 3 ∨ L = 4) ∧ 128 ≤ at_ T (L - 1) := by
  refine ⟨rune.textF (n : Int), (rune.enc n).length, rune.encode_text ((rune.okR_nat n).2 h), rune.text_size h, ?_, ?_⟩
  · have := rune.enc_le n
    have h2 : 2 ≤ (rune.enc n).length := by
      unfold rune.enc
      rw [if_neg (by omega)]
      repeat' split
      all_goals simp
    omega
  · have hp := rune.enc_pos n
    unfold at_
    rw [rune.text_yes h]
    show 128 ≤ (((rune.encB n).getD ((rune.enc n).length - 1) 0).toNat : Int)
    have hl : (rune.enc n).length - 1 < (rune.encB n).length := by rw [rune.encB_length]; omega
    rw [List.getD_eq_getElem?_getD, List.getElem?_eq_getElem hl, Option.getD_some]
    have e : (rune.encB n)[(rune.enc n).length - 1] = UInt8.ofNat ((rune.enc n)[(rune.enc n).length - 1]'(by omega)) := by simp [rune.encB]
    rw [e]
    have hm := List.getElem_mem (l := rune.enc n) (n := (rune.enc n).length - 1) (by omega)
    have a := quote.enc_hi h h1 _ hm
    have b := rune.enc_lt h _ hm
    rw [UInt8.toNat_ofNat_of_lt' (by simpa using b)]
    omega
end Go.Proofs.YtbfkkaafkinpmaaGreatDoor.line
namespace Go.Proofs.YtbfkkaafkinpmaaGreatDoor.line
open Go.ChangeShapes Go.WideShapes Go.ChangeAt Go.RowKit
set_option linter.unusedVariables false

theorem ib_none (l : List UInt8) (x : Int) (h : 128 ≤ x) (h2 : x < 256) (hl : ∀ b ∈ l, b.toNat < 128) : Lib.indexByte l x.toNat.toUInt8 = -1 := by
  induction l with
  | nil => rfl
  | cons b r ih =>
    have hb := hl b (List.mem_cons_self ..)
    have hne : ¬ b = x.toNat.toUInt8 := by
      intro e
      have := congrArg UInt8.toNat e
      simp at this
      omega
    have := ih (fun c hc => hl c (List.mem_cons_of_mem _ hc))
    unfold Lib.indexByte
    rw [this]
    simp [hne]
set_option maxHeartbeats 4000000 in
set_option maxRecDepth 100000 in
/-- A rune beyond ASCII is none of the three. -/
theorem rune_far (n : Nat) (hv : rune.valid n) (hn : 128 ≤ n) (w : World) :
    Calls Tryz.prog 103 #[.string ⟨#[34, 35, 92]⟩, .int .i32 n] w fun e w' => e = .returned (.int .i64 (-1)) ∧ Below w.heap.size w w' := by
  obtain ⟨T, L, hT, hL, hLc, hlast⟩ := enc_tail hv hn
  have hn0 : ¬ (n : Int) < 128 := by omega
  by_cases c : n = 65533
  · subst c
    clear hT hL hLc hlast T L hv hn hn0
    go_enter Tryz.func103, Tryz.ntmps103
    go_wp2_with fail
    go_loopg [5, 6] 3 (fun g _ _ wx => ∃ i : Nat, i + g = 3 ∧ wx = w.iter ⟨#[34, 35, 92]⟩ i)
    case atStart => exact ⟨0, by omega, rfl⟩
    case round =>
      obtain ⟨i, hig, rfl⟩ := hrel
      cases gk with
      | zero =>
        obtain rfl : i = 3 := by omega
        have hnx := run_next_end (P := Tryz.prog) w ⟨#[34, 35, 92]⟩ 3
        go_wp2_with fail
        go_ret
        exact ⟨rfl, (Below.refl _ _).alloc (Nat.le_refl _) _⟩
      | succ g =>
        obtain rfl | rfl | rfl : i = 0 ∨ i = 1 ∨ i = 2 := by omega
        · have hnx := fun ty => run_next_ascii (P := Tryz.prog) w ⟨#[34, 35, 92]⟩ 0 ty (by decide) (by decide)
          go_wp2_with fail
          go_roundg g
          case rel => exact ⟨1, by omega, rfl⟩
          case measure => omega
        · have hnx := fun ty => run_next_ascii (P := Tryz.prog) w ⟨#[34, 35, 92]⟩ 1 ty (by decide) (by decide)
          go_wp2_with fail
          go_roundg g
          case rel => exact ⟨2, by omega, rfl⟩
          case measure => omega
        · have hnx := fun ty => run_next_ascii (P := Tryz.prog) w ⟨#[34, 35, 92]⟩ 2 ty (by decide) (by decide)
          go_wp2_with fail
          go_roundg g
          case rel => exact ⟨3, by omega, rfl⟩
          case measure => omega
  · have c1 : ((n : Int) == 65533) = false := by rw [beq_eq_false_iff_ne]; omega
    have hnb : (n : Int) ≤ 1114111 := by unfold rune.valid at hv; omega
    have HV : Hid (∀ w, Calls Tryz.prog 117 #[.int .i32 n] w fun e w' => e = .returned (.bool true) ∧ w' = w) := by
      intro w
      refine (Tryz.utf8_ValidRune (n : Int) w).mono ?_
      rintro e w' ⟨rfl, h⟩
      refine ⟨?_, h⟩
      have hvr : Lib.validRune (n : Int) = true := by
        unfold Lib.validRune
        unfold rune.valid at hv
        rw [decide_eq_true_iff]
        omega
      rw [hvr]
    have hpos : 0 < T.size := by omega
    have hat := at_eq T (L - 1) (by omega)
    have hbd := at_bd T (L - 1)
    generalize at_ T (L - 1) = x at hat hlast hbd
    have HB : Hid (∀ (l : List UInt8) (w : World), (∀ b ∈ l, b.toNat < 128) → Calls Tryz.prog 81 #[.string ⟨l.toArray⟩, .int .u8 x] w fun e w' => e = .returned (.int .i64 (-1)) ∧ w' = w) := by
      intro l w hl
      have h := Tryz.strings_IndexByte ⟨l.toArray⟩ x w
      rw [show (⟨l.toArray⟩ : ByteArray).data.toList = l from rfl, ib_none l x hlast hbd.2 hl] at h
      exact h
    have hnn : (0 : Int) ≤ n := by omega
    clear c hv hn
    subst hT
    generalize (n : Int) = z at *
    clear hnb
    rcases hLc with rfl | rfl | rfl
    · have hb1 : ((35 : Int) != x) = true := by rw [bne, beq_eq_false_iff_ne.2 (by omega)]; rfl
      have hb2 : (((((⟨#[34, 35, 92]⟩ : ByteArray)[1]'(by decide)).toNat : Nat) : Int) != x) = true := hb1
      have ex : ((⟨#[34, 35, 92]⟩ : ByteArray).extract 2 3) = ⟨([92] : List UInt8).toArray⟩ := by rfl
      have HB1 := Lib.hid (fun w => HB.out [92] w (by decide))
      rw [← ex] at HB1
      clear ex
      have hat1 : (((Utf8.encode z)[1]'(by omega)).toNat : Int) = x := hat
      clear HB hat
      go_enter Tryz.func103, Tryz.ntmps103
      go_wp2_with fail
      refine (HV.out _).mono ?_
      rintro e w1 ⟨rfl, rfl⟩
      go_wp2_with fail
      go_step3
      go_wp2_with fail
      go_loop [9, 10] (fun i f => i = .int .i64 1 ∧ f = .int .i64 0) (fun i f => 0)
      case atStart => exact ⟨rfl, rfl⟩
      case round =>
        obtain ⟨rfl, rfl⟩ := hrel
        go_wp2_with fail
        go_step3
        go_wp2_with fail
        go_quiet (fail)
        go_wp2_with fail
        have hbq := below_drewN (Below.refl w1.heap.size w1) nq
        generalize w1.drewN nq = w2 at hbq ⊢
        go_quiet ((go_at_call 81; exact Calls.quiet_of_same (HB1.out _)))
        go_wp2_with fail
        change bodyPost _ _ (fun e w' => e = Ending.returned (Value.int IntKind.i64 (-1)) ∧ Below w1.heap.size w1 w') Exit.ret _ _
        go_ret
        exact ⟨rfl, below_drewN hbq _⟩
    · have hb1 : ((92 : Int) != x) = true := by rw [bne, beq_eq_false_iff_ne.2 (by omega)]; rfl
      have hb2 : (((((⟨#[34, 35, 92]⟩ : ByteArray)[2]'(by decide)).toNat : Nat) : Int) != x) = true := hb1
      have HB1 : Hid (∀ w, Calls Tryz.prog 81 #[.string ByteArray.empty, .int .u8 x] w fun e w' => e = .returned (.int .i64 (-1)) ∧ w' = w) := fun w => HB.out [] w (by decide)
      have hat1 : (((Utf8.encode z)[2]'(by omega)).toNat : Int) = x := hat
      clear HB hat
      go_enter Tryz.func103, Tryz.ntmps103
      go_wp2_with fail
      refine (HV.out _).mono ?_
      rintro e w1 ⟨rfl, rfl⟩
      go_wp2_with fail
      go_step3
      go_wp2_with fail
      go_loop [9, 10] (fun i f => i = .int .i64 2 ∧ f = .int .i64 0) (fun i f => 0)
      case atStart => exact ⟨rfl, rfl⟩
      case round =>
        obtain ⟨rfl, rfl⟩ := hrel
        go_wp2_with fail
        go_step3
        go_wp2_with fail
        go_quiet (fail)
        go_wp2_with fail
        have hbq := below_drewN (Below.refl w1.heap.size w1) nq
        generalize w1.drewN nq = w2 at hbq ⊢
        go_quiet ((go_at_call 81; exact Calls.quiet_of_same (HB1.out _)))
        go_wp2_with fail
        change bodyPost _ _ (fun e w' => e = Ending.returned (Value.int IntKind.i64 (-1)) ∧ Below w1.heap.size w1 w') Exit.ret _ _
        go_ret
        exact ⟨rfl, below_drewN hbq _⟩
    · clear HB hat
      go_enter Tryz.func103, Tryz.ntmps103
      go_wp2_with fail
      refine (HV.out _).mono ?_
      rintro e w1 ⟨rfl, rfl⟩
      go_wp2_with fail
      go_step3
      go_wp2_with fail
      go_loop [9, 10] (fun i f => i = .int .i64 3 ∧ f = .int .i64 0) (fun i f => 0)
      case atStart => exact ⟨rfl, rfl⟩
      case round =>
        obtain ⟨rfl, rfl⟩ := hrel
        go_wp2_with fail
        go_ret
        exact ⟨rfl, Below.refl _ _⟩

theorem no3_more {s : ByteArray} {i k : Nat} (h : No3 s i) (h2 : ∀ j, j < k → ¬ three (at_ s (i + j))) : No3 s (i + k) := fun j hj => by
  by_cases c : j < i
  · exact h j c
  · have := h2 (j - i) (by omega)
    rwa [show i + (j - i) = j by omega] at this
theorem zero84 (w : World) : (zeroValue 112).run Tryz.prog w = .ok (.agg (Array.replicate 256 (.bool false))) w := by kernel_rfl
set_option maxHeartbeats 4000000 in
set_option maxRecDepth 100000 in
theorem any_short (s : ByteArray) (w : World) (h8 : s.size ≤ 8) :
    Calls Tryz.prog 88 #[.string s, .string ⟨#[34, 35, 92]⟩] w fun e w' => (∃ x, e = .returned (.int .i64 x) ∧ decide (0 ≤ x) = decide (Any3 s)) ∧ Below w.heap.size w w' := by
  have HS := Lib.hid (fun w => Tryz.strings_shouldUseASCIISet (s.size : Int) w)
  have h8z : decide ((8 : Int) < (s.size : Int)) = false := decide_eq_false (by omega)
  rw [h8z] at HS
  clear h8z
  obtain ⟨R, hR⟩ : ∃ R, decide (Any3 s) = R := ⟨_, rfl⟩
  rw [hR]
  have HR := Lib.hid hR
  clear hR
  go_enter Tryz.func88, Tryz.ntmps88
  go_wp2_with fail
  refine (HS.out _).mono ?_
  rintro e w1 ⟨rfl, rfl⟩
  clear HS
  go_wp2_with fail
  go_loopg [9, 10] s.size (fun g _ _ wx => ∃ i : Nat, i + g = s.size ∧ wx.heap[w1.heap.size]? = some (.stringIter s i) ∧ Below w1.heap.size w1 wx ∧ Hid (No3 s i))
  case atStart => exact ⟨0, by omega, by rw [World.iter_heap], (Below.refl _ _).alloc (Nat.le_refl _) _, fun j hj => absurd hj (Nat.not_lt_zero j)⟩
  case round =>
    obtain ⟨i, hig, hg, hbel, hno⟩ := hrel
    by_cases hlt : i < s.size
    · obtain ⟨n, k, hd, hv, hk, hcase⟩ := dec_any s i hlt
      have hnx := fun ty => next_yes (P := Tryz.prog) wr w1.heap.size s i ty hg hlt
      rw [hd] at hnx
      simp only at hnx
      have hg2 : (stepI wr w1.heap.size s (i + k)).heap[w1.heap.size]? = some (.stringIter s (i + k)) := stepI_at hg
      have hbel2 : Below w1.heap.size w1 (stepI wr w1.heap.size s (i + k)) := stepI_below hbel (Nat.le_refl _)
      have Hg2 := Lib.hid hg2
      clear hg hbel hg2
      rcases hcase with ⟨rfl, he, h128⟩ | ⟨h128, hle, hfar⟩
      · have HX := Lib.hid (fun w => Tryz.strings_IndexRune_ascii ⟨#[34, 35, 92]⟩ (n : Int) w (by omega) (by omega))
        rw [show (⟨#[34, 35, 92]⟩ : ByteArray).data.toList = [34, 35, 92] from rfl] at HX
        have hti := three_index (n : Int) (by omega) (by omega)
        generalize Lib.indexByte [34, 35, 92] (n : Int).toNat.toUInt8 = y at HX hti
        have Hbel2 := Lib.hid hbel2
        clear hbel2
        by_cases c : three (n : Int)
        · rw [decide_eq_true c] at hti
          have hy : 0 ≤ y := of_decide_eq_true hti
          have H : Hid (R = true) := by unfold Hid; rw [← HR.out]; exact decide_eq_true ⟨i, hlt, by rw [← he]; exact c⟩
          clear hti c he hno HR hd hv
          go_wp2_with fail
          refine (HX.out _).mono ?_
          rintro e w2 ⟨rfl, rfl⟩
          clear HX
          go_wp2_with fail
          go_ret
          exact ⟨⟨_, rfl, by rw [H.out]; simp⟩, Hbel2.out⟩
        · rw [decide_eq_false c] at hti
          have hy : ¬ 0 ≤ y := of_decide_eq_false hti
          have Hn : Hid (No3 s (i + 1)) := no3_more hno.out (fun j hj => by
            obtain rfl : j = 0 := Nat.lt_one_iff.1 hj
            rw [Nat.add_zero, ← he]
            exact c)
          clear hti c he hno hd hv
          go_wp2_with fail
          refine (HX.out _).mono ?_
          rintro e w2 ⟨rfl, rfl⟩
          clear HX
          go_wp2_with fail
          go_roundg (s.size - (i + 1))
          case rel => exact ⟨i + 1, by omega, Hg2.out, Hbel2.out, Hn⟩
          case measure => omega
      · have HX := Lib.hid (fun w => rune_far n hv h128 w)
        have Hn : Hid (No3 s (i + k)) := no3_more hno.out (fun j hj h => by
          have := hfar j hj
          rcases h with h | h | h <;> omega)
        clear hno hd hv hfar
        go_wp2_with fail
        refine (HX.out _).mono ?_
        rintro e w2 ⟨rfl, hb⟩
        have Hg3 : Hid (w2.heap[w1.heap.size]? = some (.stringIter s (i + k))) := iter_kept Hg2.out hb
        have Hb3 : Hid (Below w1.heap.size w1 w2) := hbel2.trans (hb.mono hbel2.size)
        clear HX hb hbel2 Hg2
        go_wp2_with fail
        go_roundg (s.size - (i + k))
        case rel => exact ⟨i + k, by omega, Hg3.out, Hb3.out, Hn⟩
        case measure => omega
    · have hnx := fun ty => next_no (P := Tryz.prog) wr w1.heap.size s i ty hg hlt
      have H : Hid (R = false) := by unfold Hid; rw [← HR.out]; exact decide_eq_false (no3_none hno.out (by omega))
      have Hb := Lib.hid hbel
      clear hg hbel hno HR
      go_wp2_with fail
      go_ret
      exact ⟨⟨_, rfl, by rw [H.out]; rfl⟩, Hb.out⟩
theorem idx_any : ∀ l : List UInt8, decide (0 ≤ Lib.indexAny l [34, 35, 92]) = l.any (fun b => [34, 35, 92].contains b)
  | [] => by decide
  | b :: r => by
    have ih := idx_any r
    have hge := Lib.indexAny_ge [34, 35, 92] r
    rw [List.any_cons]
    unfold Lib.indexAny
    cases hc : [34, 35, 92].contains b with
    | true => simp
    | false =>
      rw [if_neg (by decide)]
      by_cases e : Lib.indexAny r [34, 35, 92] = -1
      · rw [e] at ih ⊢
        rw [if_pos (by decide), Bool.false_or]
        exact ih
      · rw [if_neg (by simpa using e), Bool.false_or, ← ih]
        congr 1
        apply propext
        constructor <;> intro h <;> omega
theorem three_byte : ∀ n : Fin 256, [34, 35, 92].contains (UInt8.ofNat n.val) = decide (three (n.val : Int)) := by decide +kernel
theorem any_list (s : ByteArray) : s.data.toList.any (fun b => [34, 35, 92].contains b) = decide (Any3 s) := by
  have hb : ∀ b : UInt8, [34, 35, 92].contains b = decide (three (b.toNat : Int)) := fun b => by
    have := three_byte ⟨b.toNat, b.toNat_lt⟩
    simpa using this
  by_cases c : Any3 s
  · rw [decide_eq_true c]
    obtain ⟨k, hk, h⟩ := c
    have hl : k < s.data.toList.length := by rw [len_list]; exact hk
    refine List.any_eq_true.2 ⟨s.data.toList[k], List.getElem_mem hl, ?_⟩
    rw [hb, decide_eq_true_iff, ← byte_at s k _ (List.getElem?_eq_getElem hl)]
    exact h
  · rw [decide_eq_false c, List.any_eq_false]
    intro b hm h
    obtain ⟨k, hl, e⟩ := List.getElem_of_mem hm
    rw [hb, decide_eq_true_iff] at h
    refine c ⟨k, by rw [len_list] at hl; exact hl, ?_⟩
    rw [byte_at s k b (by rw [List.getElem?_eq_getElem hl, e])]
    exact h
theorem impl_three (s : ByteArray) (w : World) (hs : s.size ≤ 1048576) :
    Calls Tryz.prog 79 #[.string s, .string ⟨#[34, 35, 92]⟩] w fun e w' => e = .returned (.bool (decide (Any3 s))) ∧ Below w.heap.size w w' := by
  have HI : Hid (Calls Tryz.prog 88 #[.string s, .string ⟨#[34, 35, 92]⟩] w fun e w' => (∃ x, e = .returned (.int .i64 x) ∧ decide (0 ≤ x) = decide (Any3 s)) ∧ Below w.heap.size w w') := by
    by_cases c : s.size ≤ 8
    · exact any_short s w c
    · refine (Tryz.strings_IndexAny_long zero84 s ⟨#[34, 35, 92]⟩ w (by decide) (by omega) (by omega) (by decide) (fun j b h => ?_)).mono ?_
      · have hm := List.mem_of_getElem? h
        rcases List.mem_cons.1 hm with rfl | hm
        · decide
        · rcases List.mem_cons.1 hm with rfl | hm
          · decide
          · rcases List.mem_cons.1 hm with rfl | hm
            · decide
            · cases hm
      · rintro e w' ⟨rfl, rfl⟩
        exact ⟨⟨_, rfl, by rw [← any_list]; exact idx_any _⟩, ((Below.refl _ _).alloc (Nat.le_refl _) _).alloc (by simp) _⟩
  generalize decide (Any3 s) = R at HI ⊢
  go_enter Tryz.func79, Tryz.ntmps79
  go_wp2_with fail
  refine HI.out.mono ?_
  rintro e w1 ⟨⟨x, rfl, hx⟩, hb⟩
  have Hx := Lib.hid hx
  clear HI hx
  go_wp2_with fail
  go_ret
  exact ⟨by rw [← Hx.out]; rfl, hb⟩
end Go.Proofs.YtbfkkaafkinpmaaGreatDoor.line
