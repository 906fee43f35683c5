/- Merged: ReadNumM AmountM SplitS SufS UnitS Figure DecimalS ReadIntS MulS. -/
import Derived.Test.YtangdmjdjiddcaaGreatDoorGA0
import Derived.Test.YtangdmjdjiddcaaGreatDoorRows
import Derived.ProofKit
import Derived.OpenShut
import Derived.Lib.ItoaNum
namespace Go.Proofs.YtangdmjdjiddcaaGreatDoor.readnum
open Go.ChangeShapes Go.WideShapes Go.ChangeAt Go.RowKit
set_option linter.unusedVariables false

/-- What the first k bytes spell. -/
def v (s : ByteArray) (k : Nat) : Nat := num.foldD 0 (s.data.toList.take k)
def Num (m : Nat) (s : ByteArray) (n : Nat) : Prop := n ≤ m ∧ s.data.toList = Lib.decDigits n
theorem num_v {m : Nat} {s : ByteArray} {n : Nat} (h : Num m s n) : v s s.size = n := by
  unfold v
  rw [List.take_of_length_le (by simp), h.2, num.dec_fold]
theorem num_len {m : Nat} {s : ByteArray} {n : Nat} (h : Num m s n) (k : Nat) (hk : m < 10 ^ (k + 1)) : s.size ≤ k + 1 := by
  have h1 := num.dec_len k n (Nat.lt_of_le_of_lt h.1 hk)
  rw [← h.2] at h1
  simpa using h1
theorem num_dig {m : Nat} {s : ByteArray} {n : Nat} (h : Num m s n) (k : Nat) (hk : k < s.size) : 48 ≤ at_ s k ∧ at_ s k ≤ 57 := by
  have h2 : k < s.data.toList.length := by simpa using hk
  have h1 := num.dec_isD n (s.data.toList[k]) (by rw [← h.2]; exact List.getElem_mem h2)
  unfold num.isD at h1
  unfold at_
  rw [List.getD_eq_getElem?_getD, List.getElem?_eq_getElem h2]
  simp only [Option.getD_some]
  omega
open Classical in
noncomputable def flag (m : Nat) (s : ByteArray) : Bool := decide (∃ n, Num m s n)
open Classical in
noncomputable def res (m : Nat) (s : ByteArray) : Int := if ∃ n, Num m s n then (v s s.size : Int) else 0
theorem no_flag {m : Nat} {s : ByteArray} (h : ∀ n, ¬ Num m s n) : flag m s = false := by
  unfold flag
  have h2 : ¬ ∃ n, Num m s n := fun ⟨n, hn⟩ => h n hn
  simp [h2]
theorem no_res {m : Nat} {s : ByteArray} (h : ∀ n, ¬ Num m s n) : res m s = 0 := by
  unfold res; rw [if_neg (fun ⟨n, hn⟩ => h n hn)]
theorem yes_flag {m : Nat} {s : ByteArray} {n : Nat} (h : Num m s n) : flag m s = true := by
  unfold flag
  have h2 : ∃ n, Num m s n := ⟨n, h⟩
  simp [h2]
theorem yes_res {m : Nat} {s : ByteArray} {n : Nat} (h : Num m s n) : res m s = (n : Int) := by
  unfold res; rw [if_pos ⟨n, h⟩, num_v h]

theorem v_zero (s : ByteArray) : v s 0 = 0 := by unfold v; rw [List.take_zero, num.foldD_nil]
theorem v_step (s : ByteArray) (k : Nat) (hk : k < s.size) (h : 48 ≤ at_ s k) : (v s (k + 1) : Int) = 10 * (v s k : Int) + at_ s k - 48 := by
  have e := at_eq s k hk
  unfold v
  rw [take_snoc s k hk, num.foldD_snoc]
  omega
theorem v_mono (s : ByteArray) (k : Nat) : v s k ≤ v s s.size := by
  have e : v s s.size = num.foldD (v s k) (s.data.toList.drop k) := by
    unfold v
    rw [List.take_of_length_le (by simp)]
    unfold num.foldD
    rw [← List.foldl_append, List.take_append_drop]
  rw [e]
  exact num.foldD_ge _ _
def digs (s : ByteArray) (k : Nat) : Prop := ∀ j, j < k → 48 ≤ at_ s j ∧ at_ s j ≤ 57
theorem v_lt (s : ByteArray) : ∀ k, k ≤ s.size → digs s k → v s k < 10 ^ k
  | 0, _, _ => by rw [v_zero]; exact Nat.one_pos
  | k + 1, hk, hd => by
    have ih := v_lt s k (by omega) (fun j hj => hd j (by omega))
    have h1 := hd k (by omega)
    have h2 := v_step s k (by omega) h1.1
    rw [Nat.pow_succ]
    generalize 10 ^ k = m at ih
    omega
theorem v_bd (s : ByteArray) (k : Nat) (hk : k ≤ s.size) (hd : digs s k) (h10 : k ≤ 10) : v s k < 10000000000 :=
  Nat.lt_of_lt_of_le (v_lt s k hk hd) (Nat.le_trans (Nat.pow_le_pow_right (by omega) h10) (by decide))
end Go.Proofs.YtangdmjdjiddcaaGreatDoor.readnum
namespace Go.Proofs.YtangdmjdjiddcaaGreatDoor.amount
open Go.ChangeShapes Go.WideShapes Go.ChangeAt Go.RowKit
set_option linter.unusedVariables false

noncomputable def readG (f r : ByteArray) : Int × Int :=
  match unit.unitF r with
  | none => (0, 1)
  | some u => if f.size = 0 ∨ (1 < f.size ∧ at_ f 0 = 48) then (0, 1)
    else if readnum.flag 9223372036854775807 f = true then
      match arith.mulF (readnum.res 9223372036854775807 f) u with
      | some x => (x, 0)
      | none => (0, 2)
    else (0, 2)
noncomputable def readF (s : ByteArray) : Int × Int := if 40 < s.size then (0, 1) else readG (split.fst s) (split.snd s)
theorem g_unit {f r : ByteArray} (h : unit.unitF r = none) : readG f r = (0, 1) := by unfold readG; rw [h]
theorem g_form {f r : ByteArray} (h : f.size = 0 ∨ (1 < f.size ∧ at_ f 0 = 48)) : readG f r = (0, 1) := by
  unfold readG
  split
  · rfl
  · rw [if_pos h]
theorem g_far {f r : ByteArray} {u : Int} (hu : unit.unitF r = some u) (h : ¬ (f.size = 0 ∨ (1 < f.size ∧ at_ f 0 = 48))) (hf : readnum.flag 9223372036854775807 f = false) : readG f r = (0, 2) := by
  unfold readG
  rw [hu]
  simp only
  rw [if_neg h, hf]
  rfl
theorem g_much {f r : ByteArray} {u : Int} (hu : unit.unitF r = some u) (h : ¬ (f.size = 0 ∨ (1 < f.size ∧ at_ f 0 = 48))) (hf : readnum.flag 9223372036854775807 f = true) (hm : arith.mulF (readnum.res 9223372036854775807 f) u = none) : readG f r = (0, 2) := by
  unfold readG
  rw [hu]
  simp only
  rw [if_neg h, if_pos hf, hm]
theorem g_yes {f r : ByteArray} {u x : Int} (hu : unit.unitF r = some u) (h : ¬ (f.size = 0 ∨ (1 < f.size ∧ at_ f 0 = 48))) (hf : readnum.flag 9223372036854775807 f = true) (hm : arith.mulF (readnum.res 9223372036854775807 f) u = some x) : readG f r = (x, 0) := by
  unfold readG
  rw [hu]
  simp only
  rw [if_neg h, if_pos hf, hm]
theorem read_long {s : ByteArray} (h : 40 < s.size) : readF s = (0, 1) := by unfold readF; rw [if_pos h]
theorem read_short {s : ByteArray} (h : ¬ 40 < s.size) : readF s = readG (split.fst s) (split.snd s) := by unfold readF; rw [if_neg h]
theorem readG_bd (f r : ByteArray) : 0 ≤ (readG f r).1 ∧ (readG f r).1 ≤ 9223372036854775807 ∧ ((readG f r).2 = 0 ∨ (readG f r).2 = 1 ∨ (readG f r).2 = 2) := by
  unfold readG
  split
  · exact ⟨by decide, by decide, by decide⟩
  · split
    · exact ⟨by decide, by decide, by decide⟩
    · split
      · split
        · next h =>
          have := arith.mul_bd h
          exact ⟨by omega, by omega, .inl rfl⟩
        · exact ⟨by decide, by decide, by decide⟩
      · exact ⟨by decide, by decide, by decide⟩
theorem read_bd (s : ByteArray) : 0 ≤ (readF s).1 ∧ (readF s).1 ≤ 9223372036854775807 ∧ ((readF s).2 = 0 ∨ (readF s).2 = 1 ∨ (readF s).2 = 2) := by
  unfold readF
  split
  · exact ⟨by decide, by decide, by decide⟩
  · exact readG_bd _ _
/-- The bounds of what the digits spell. -/
theorem res_bd (f : ByteArray) : 0 ≤ readnum.res 9223372036854775807 f ∧ readnum.res 9223372036854775807 f ≤ 9223372036854775807 := by
  by_cases h : ∃ n, readnum.Num 9223372036854775807 f n
  · obtain ⟨n, hn⟩ := h
    rw [readnum.yes_res hn]
    have := hn.1
    omega
  · rw [readnum.no_res (fun n hn => h ⟨n, hn⟩)]
    omega

/-- How often a number is divided by 1024, at most f times more of four. -/
def dv : Nat → Nat → Nat × Nat
  | 0, u => (u, 4)
  | f + 1, u => if 0 < u ∧ u % 1024 = 0 then dv f (u / 1024) else (u, 3 - f)
theorem dv_go {f u : Nat} (h0 : 0 < u) (h1 : u % 1024 = 0) : dv (f + 1) u = dv f (u / 1024) := by rw [dv, if_pos ⟨h0, h1⟩]
theorem dv_no {f u : Nat} (h : ¬ (0 < u ∧ u % 1024 = 0)) : dv (f + 1) u = (u, 3 - f) := by rw [dv, if_neg h]
theorem dv_next {k u : Nat} (hk : k < 4) (h0 : 0 < u) (h1 : u % 1024 = 0) : dv (4 - k) u = dv (4 - (k + 1)) (u / 1024) := by
  have e : 4 - k = 4 - (k + 1) + 1 := by omega
  rw [e, dv_go h0 h1]
theorem dv_end {k u : Nat} (hk : k ≤ 4) (h : k = 4 ∨ ¬ (0 < u ∧ u % 1024 = 0)) : dv (4 - k) u = (u, k) := by
  by_cases e4 : k = 4
  · subst e4; rfl
  · have e : 4 - k = 3 - k + 1 := by omega
    rw [e, dv_no (h.resolve_left e4)]
    have e3 : 3 - (3 - k) = k := by omega
    rw [e3]
theorem dv_val : ∀ (f u : Nat), f ≤ 4 → ∃ k, k ≤ f ∧ (dv f u).2 = 4 - f + k ∧ (dv f u).1 * 1024 ^ k = u
  | 0, u, _ => ⟨0, Nat.le_refl _, rfl, by simp [dv]⟩
  | f + 1, u, h => by
    by_cases hc : 0 < u ∧ u % 1024 = 0
    · rw [dv, if_pos hc]
      obtain ⟨k, h1, h2, h3⟩ := dv_val f (u / 1024) (by omega)
      refine ⟨k + 1, by omega, by omega, ?_⟩
      rw [Nat.pow_succ, ← Nat.mul_assoc, h3]
      omega
    · rw [dv, if_neg hc]
      exact ⟨0, by omega, by show 3 - f = _; omega, by simp⟩
theorem dv_le (f u : Nat) (h : f ≤ 4) : (dv f u).1 ≤ u ∧ (dv f u).2 ≤ 4 := by
  obtain ⟨k, h1, h2, h3⟩ := dv_val f u h
  refine ⟨?_, by omega⟩
  have : 1 ≤ 1024 ^ k := Nat.one_le_pow _ _ (by decide)
  calc (dv f u).1 = (dv f u).1 * 1 := by omega
    _ ≤ (dv f u).1 * 1024 ^ k := Nat.mul_le_mul_left _ this
    _ = u := h3
def sufs : List (List UInt8) := [[], [75, 105], [77, 105], [71, 105], [84, 105]]
def suf (k : Nat) : List UInt8 := sufs.getD k []
theorem suf_len : ∀ k, k ≤ 4 → (suf k).length ≤ 2 := by decide
theorem itoa_len (u : Nat) (h : u ≤ 9223372036854775807) : (Lib.itoa (u : Int)).length ≤ 19 := by
  rw [num.itoa_nat]
  exact num.dec_len 18 u (by omega)
theorem room_suf (u k : Nat) (h : u ≤ 9223372036854775807) (hk : k ≤ 4) : ¬ 9223372036854775807 < (Lib.itoa (u : Int)).length + (suf k).length := by
  have := itoa_len u h
  have := suf_len k hk
  omega
theorem room_one (n : Int) (h0 : 0 ≤ n) (h : n ≤ 9223372036854775807) : ¬ 9223372036854775807 < (Lib.itoa n).length + 1 := by
  obtain ⟨u, rfl⟩ := Int.eq_ofNat_of_zero_le h0
  have := itoa_len u (by omega)
  omega
def textL (n : Int) : List UInt8 := if n < 0 then [] else if n % 1000 ≠ 0 then Lib.itoa n ++ [109] else Lib.itoa ((dv 4 (n / 1000).toNat).1 : Int) ++ suf (dv 4 (n / 1000).toNat).2
def textF (n : Int) : ByteArray := ⟨(textL n).toArray⟩
theorem text_neg {n : Int} (h : n < 0) : textF n = ⟨#[]⟩ := by unfold textF textL; rw [if_pos h]
theorem text_odd {n : Int} (h : ¬ n < 0) (h1 : n % 1000 ≠ 0) : textF n = ⟨(Lib.itoa n).toArray⟩ ++ ⟨#[109]⟩ := by
  unfold textF textL
  rw [if_neg h, if_pos h1]
  exact (bytes_append _ [109]).symm
theorem text_even {n : Int} (h : ¬ n < 0) (h1 : n % 1000 = 0) : textF n = ⟨(Lib.itoa ((dv 4 (n / 1000).toNat).1 : Int)).toArray⟩ ++ ⟨(suf (dv 4 (n / 1000).toNat).2).toArray⟩ := by
  unfold textF textL
  rw [if_neg h, if_neg (fun e => e h1)]
  exact (bytes_append _ _).symm

noncomputable def normF (s : ByteArray) : ByteArray × Int := if (readF s).2 = 0 then (textF (readF s).1, 0) else (⟨#[]⟩, (readF s).2)
noncomputable def ordF (a b : ByteArray) : Int × Bool := if (readF a).2 = 0 ∧ (readF b).2 = 0 then (arith.cmpF (readF a).1 (readF b).1, true) else (0, false)
end Go.Proofs.YtangdmjdjiddcaaGreatDoor.amount
namespace Go.Proofs.YtangdmjdjiddcaaGreatDoor.split
open Go.ChangeShapes Go.WideShapes Go.ChangeAt Go.RowKit
set_option linter.unusedVariables false

theorem spec_any (s : ByteArray) (w : World) (hs : s.size ≤ maxLen) :
    Calls Tryz.prog 50 #[.string s] w fun e w' => e = .returned (.tuple #[.string (fst s), .string (snd s)]) ∧ Below w.heap.size w w' := by
  unfold maxLen at hs
  go_enter Tryz.func50, Tryz.ntmps50
  go_wp2_with fail
  go_loop [4] (fun i => ∃ k : Nat, k ≤ s.size ∧ i = .int .i64 k ∧ Hid (k ≤ lead s)) (fun i => s.size - (intOf i).toNat)
  case atStart => exact ⟨0, Nat.zero_le _, rfl, Nat.zero_le _⟩
  case round =>
    obtain ⟨k, hk, rfl, hl⟩ := hrel
    have hend : k = s.size ∨ at_ s k < 48 ∨ 57 < at_ s k → Hid (lead s = k) := fun h => lead_end hl.out h
    have hgo : k < s.size → 48 ≤ at_ s k → at_ s k ≤ 57 → Hid (k + 1 ≤ lead s) := fun h h1 h2 => lead_go hl.out h h1 h2
    have Hres : Hid (lead s = k → s.extract 0 k = fst s ∧ s.extract k s.size = snd s) := fun h => by unfold fst snd; rw [h]; exact ⟨rfl, rfl⟩
    by_cases hlt : k < s.size
    · have ha := at_eq s k hlt
      have hb := at_bd s k
      by_cases c1 : at_ s k < 48
      · have He := hend (.inr (.inl c1))
        clear hend hgo
        go_wp2_with fail
        go_quiet (fail)
        go_wp2_with fail
        go_ret2
        exact ⟨by rw [(Hres.out He.out).1, (Hres.out He.out).2]; rfl, below_drewN (Below.refl _ _) _⟩
      by_cases c2 : 57 < at_ s k
      · have He := hend (.inr (.inr c2))
        clear hend hgo
        go_wp2_with fail
        go_quiet (fail)
        go_wp2_with fail
        go_ret2
        exact ⟨by rw [(Hres.out He.out).1, (Hres.out He.out).2]; rfl, below_drewN (Below.refl _ _) _⟩
      · have Hg := hgo hlt (by omega) (by omega)
        clear hend hgo
        go_wp2_with fail
        go_round
        case rel => exact ⟨k + 1, by omega, by go_num, Hg⟩
        case measure => simp [intOf]; omega
    · have He := hend (.inl (by omega))
      clear hend hgo
      go_wp2_with fail
      go_quiet (fail)
      go_wp2_with fail
      go_ret2
      exact ⟨by rw [(Hres.out He.out).1, (Hres.out He.out).2]; rfl, below_drewN (Below.refl _ _) _⟩
end Go.Proofs.YtangdmjdjiddcaaGreatDoor.split
namespace Go.Proofs.YtangdmjdjiddcaaGreatDoor.suf
open Go.ChangeShapes Go.WideShapes Go.ChangeAt Go.RowKit
set_option linter.unusedVariables false

theorem spec_any (w : World) :
    Calls Tryz.prog 71 #[] w fun e w' => ∃ v, e = .returned v ∧ w'.ownsRow w.heap.size 9 1 v 10 (scells unit.texts) ∧ Below w.heap.size w w' := by
  have h0 := World.ownsRow_lit (size := 1) (base := w.heap.size) (e := 9) w (scells unit.texts).toArray 10 (Nat.le_refl _) (by simp [maxLen]) rfl
  have Hown := Lib.hid h0
  clear h0
  go_enter Tryz.func71, Tryz.ntmps71
  go_wp2_with fail
  go_ret
  exact ⟨_, rfl, Hown.out, (Below.refl _ _).alloc (Nat.le_refl _) _⟩
end Go.Proofs.YtangdmjdjiddcaaGreatDoor.suf
namespace Go.Proofs.YtangdmjdjiddcaaGreatDoor.unit
open Go.ChangeShapes Go.WideShapes Go.ChangeAt Go.RowKit
set_option linter.unusedVariables false

theorem spec_any (s : ByteArray) (w : World) (hs : s.size ≤ maxLen) :
    Calls Tryz.prog 51 #[.string s] w fun e w' => e = .returned (arith.two (unitF s)) ∧ Below w.heap.size w w' := by
  have HU := Lib.hid (fun w => suf.spec_any w)
  unfold unitF
  go_enter Tryz.func51, Tryz.ntmps51
  go_wp2_with fail
  refine (HU.out _).mono ?_
  rintro e w1 ⟨v, rfl, hown, hb⟩
  clear HU
  obtain ⟨A0, c0, rfl, hn0, hc0, hr0⟩ := Rd.of_own hown
  clear hown
  obtain ⟨g, o, rfl, hg, hr⟩ := hr0.2 (by decide)
  have hc : ∀ j, j < 10 → Hid ((w1.alloc (.cells (icells vals).toArray 3)).cell? ⟨g, o + j, none⟩ = some (.string (bytes (names.getD j [])))) := fun j hj => by
    have h1 : w1.cell? ⟨g, o + j, none⟩ = some (.string (bytes (names.getD j []))) := hr j hj _ (texts_get j hj)
    exact (Below.cell ((Below.refl _ w1).alloc (Nat.le_refl _) _) (p := ⟨g, o + j, none⟩) hg).trans h1
  have hi : ∀ j, j < 10 → Hid ((w1.alloc (.cells (icells vals).toArray 3)).cell? ⟨w1.heap.size, j, none⟩ = some (.int .i64 (vals.getD j 0))) := fun j hj => by
    unfold Hid
    rw [cell_of_row _ w1.heap.size j _ 3 (0, 0) (heap_alloc_new w1 _)]
    simpa using icells_vals j hj
  have Hb : Hid (Below w.heap.size w (w1.alloc (.cells (icells vals).toArray 3))) := hb.alloc hb.size _
  clear hr0 hr hb
  go_wp2_with fail
  generalize hw2 : w1.alloc (.cells (icells vals).toArray 3) = w2 at hc hi Hb
  have e2 : w1.alloc (.cells #[.int .i64 1000, .int .i64 1, .int .i64 1000000, .int .i64 1000000000, .int .i64 1000000000000, .int .i64 1000000000000000, .int .i64 1024000, .int .i64 1048576000, .int .i64 1073741824000, .int .i64 1099511627776000] 3) = w2 := hw2
  rw [e2]
  clear e2 hw2
  go_loop [6] (fun i => ∃ k : Nat, k ≤ 10 ∧ i = .int .i64 k ∧ Hid (∀ j, j < k → names.getD j [] ≠ s.data.toList)) (fun i => 10 - (intOf i).toNat)
  case atStart => exact ⟨0, Nat.zero_le _, rfl, fun j hj => by omega⟩
  case round =>
    obtain ⟨k, hk, rfl, hm⟩ := hrel
    by_cases hlt : k < 10
    · have h1 := (hc k hlt).out
      have h2 := (hi k hlt).out
      clear hc hi
      by_cases he : names.getD k [] = s.data.toList
      · have Hr : Hid (unitL s.data.toList = some (vals.getD k 0)) := by unfold Hid; rw [← he]; exact hit k hlt
        have Hs : bytes (names.getD k []) = s := by rw [he]; rfl
        rw [Hs] at h1
        generalize vals.getD k 0 = x at h2 Hr
        clear Hs he
        go_wp2_with fail
        go_ret2
        exact ⟨by rw [Hr.out]; rfl, Hb.out⟩
      · have Hm : Hid (∀ j, j < k + 1 → names.getD j [] ≠ s.data.toList) := fun j hj => by
          by_cases e : j = k
          · subst e; exact he
          · exact hm.out j (by omega)
        have hx : ((bytes (names.getD k [])).toList == s.toList) = false := by
          rw [ByteArray.toList_eq, ByteArray.toList_eq, beq_eq_false_iff_ne]
          exact he
        generalize bytes (names.getD k []) = x at h1 hx
        clear he hm h2
        go_wp2_with fail
        go_round
        case rel => exact ⟨k + 1, by omega, by go_num, Hm⟩
        case measure => simp [intOf]; omega
    · obtain rfl : k = 10 := by omega
      have Hr : Hid (unitL s.data.toList = none) := miss hm.out
      clear hc hi hm
      go_wp2_with fail
      go_ret2
      exact ⟨by rw [Hr.out]; rfl, Hb.out⟩
end Go.Proofs.YtangdmjdjiddcaaGreatDoor.unit
namespace Go.Proofs.YtangdmjdjiddcaaGreatDoor.hex
open Go.ChangeShapes Go.WideShapes Go.ChangeAt Go.RowKit
set_option linter.unusedVariables false

/-- The byte of a hexadecimal digit. -/
def fig (n : Nat) : UInt8 := if n < 10 then UInt8.ofNat (48 + n) else UInt8.ofNat (87 + n)

theorem fig_lo (x : Int) (h0 : 0 ≤ x) (h : x < 10) : ((fig x.toNat).toNat : Int) = 48 + x := by
  unfold fig; rw [if_pos (by omega)]; simp; omega
theorem fig_hi (x : Int) (h0 : 10 ≤ x) (h : x < 16) : ((fig x.toNat).toNat : Int) = 97 + x - 10 := by
  unfold fig; rw [if_neg (by omega)]; simp; omega

theorem figure_any (x : Int) (w : World) (h0 : 0 ≤ x) (h1 : x < 16) :
    Calls Tryz.prog 88 #[.int .i64 x] w fun e w' => e = .returned (.int .u8 (fig x.toNat).toNat) ∧ w = w' := by
  by_cases h : x < 10
  · go_enter Tryz.func88, Tryz.ntmps88
    go_wp2
    go_ret
    exact ⟨ret_int (fig_lo x h0 h).symm, rfl⟩
  · have h' : 10 ≤ x := by omega
    go_enter Tryz.func88, Tryz.ntmps88
    go_wp2
    go_ret
    exact ⟨ret_int (by rw [fig_hi x h' h1]; try (simp; done)), rfl⟩

end Go.Proofs.YtangdmjdjiddcaaGreatDoor.hex
namespace Go.Proofs.YtangdmjdjiddcaaGreatDoor.decimal
open Go.ChangeShapes Go.WideShapes Go.ChangeAt Go.RowKit
set_option linter.unusedVariables false

/-- The digits of u, none for 0. -/
def dz (u : Nat) : List UInt8 := if u = 0 then [] else Lib.decDigits u
theorem dz_zero : dz 0 = [] := rfl
theorem dz_pos {u : Nat} (h : 0 < u) : dz u = Lib.decDigits u := by unfold dz; rw [if_neg (by omega)]
theorem dz_step {u : Nat} (h : 0 < u) : dz u = dz (u / 10) ++ [UInt8.ofNat (48 + u % 10)] := by
  rw [dz_pos h, Lib.decDigits]
  by_cases h1 : u < 10
  · rw [dif_pos h1]
    have : u / 10 = 0 := by omega
    rw [this, dz_zero, Nat.mod_eq_of_lt h1]; rfl
  · rw [dif_neg h1, dz_pos (by omega : 0 < u / 10)]
theorem fig_dec (u : Nat) (h : u < 10) : hex.fig u = UInt8.ofNat (48 + u) := by unfold hex.fig; rw [if_pos h]

theorem conv_one (w : World) (x : UInt8) :
    (convert 22 9 (.slice (some ⟨w.heap.size, 0, none⟩) 1 1)).run Tryz.prog (w.alloc (.cells #[.int .u8 x.toNat] 5)) = .ok (.string ⟨#[x]⟩) (w.alloc (.cells #[.int .u8 x.toNat] 5)) := by
  have h := run_convert_own (P := Tryz.prog) (w.alloc (.cells #[.int .u8 x.toNat] 5)) 22 5 9 Tryz.underlying22 Tryz.underlying5 Tryz.underlying9 w.heap.size (.slice (some ⟨w.heap.size, 0, none⟩) 1 1) [x] (World.ownsRow_lit (size := 1) (base := w.heap.size) (e := 5) w #[.int .u8 x.toNat] 1 (Nat.le_refl _) (by simp [maxLen]) rfl)
  exact h

theorem spec_zero (w : World) :
    Calls Tryz.prog 72 #[.int .i64 0] w fun e w' => e = .returned (.string ⟨(Lib.itoa 0).toArray⟩) ∧ Below w.heap.size w w' := by
  have Hi : Hid (Lib.itoa 0 = [48]) := by unfold Hid; rw [Lib.itoa, if_neg (by omega), Lib.decDigits]; rfl
  go_enter Tryz.func72, Tryz.ntmps72
  go_wp2_with fail
  go_ret
  exact ⟨by rw [Hi.out]; rfl, Below.refl _ _⟩

theorem spec_pos (u0 : Nat) (w : World) (h0 : 0 < u0) (h1 : (u0 : Int) ≤ 9223372036854775807) :
    Calls Tryz.prog 72 #[.int .i64 u0] w fun e w' => e = .returned (.string ⟨(Lib.itoa u0).toArray⟩) ∧ Below w.heap.size w w' := by
  have hi : Lib.itoa (u0 : Int) = dz u0 := by rw [dz_pos h0, Lib.itoa, if_neg (by omega)]; simp
  have Hi := Lib.hid hi
  clear hi
  have hz : ((u0 : Int) == 0) = false := beq_eq_false_iff_ne.2 (by omega)
  go_enter Tryz.func72, Tryz.ntmps72
  go_wp2_with fail
  go_loopw [0, 4] (fun a s wr => ∃ (u : Nat) (acc : List UInt8), u ≤ u0 ∧ a = .int .i64 u ∧ s = .string ⟨acc.toArray⟩ ∧ acc.length ≤ u0 - u ∧ Hid (dz u ++ acc = dz u0) ∧ Below w.heap.size w wr) (fun a _ _ => (intOf a).toNat)
  case atStart => exact ⟨u0, [], Nat.le_refl _, rfl, rfl, by simp, by unfold Hid; simp, Below.refl _ _⟩
  case round =>
    obtain ⟨u, acc, hu, rfl, rfl, hlen, hd, hbel⟩ := hrel
    by_cases hp : 0 < u
    · have e1 : ((u : Int) != 0) = true := by rw [bne_iff_ne]; omega
      have hs : dz (u / 10) ++ (UInt8.ofNat (48 + u % 10) :: acc) = dz u0 := by rw [← hd.out, dz_step hp]; simp
      have Hs := Lib.hid hs
      have hf : hex.fig ((u : Int) % 10).toNat = hex.fig (u % 10) := by congr 1
      have Hf : Hid (hex.fig (u % 10) = UInt8.ofNat (48 + u % 10)) := fig_dec _ (by omega)
      have Hc := Lib.hid (fun W => conv_one W (hex.fig (u % 10)))
      clear hs hd
      go_wp2_with fail
      refine (hex.figure_any _ _ (by omega) (by omega)).mono ?_
      rintro e w1 ⟨rfl, rfl⟩
      have hc := Hc.out wr
      have hbel2 := hbel.alloc hbel.size (.cells #[.int .u8 (hex.fig (u % 10)).toNat] 5)
      rw [hf]
      clear Hc hf
      go_wp2_with fail
      go_roundw
      case rel => exact ⟨u / 10, UInt8.ofNat (48 + u % 10) :: acc, by omega, by go_num, by rw [← Hf.out]; exact congrArg Value.string (bytes_cons _ _), by simp; omega, Hs, hbel2⟩
      case measure => simp [intOf]; omega
    · obtain rfl : u = 0 := by omega
      have ha : acc = dz u0 := by rw [← hd.out, dz_zero]; rfl
      subst ha
      go_wp2_with fail
      go_ret
      exact ⟨by rw [Hi.out]; rfl, hbel⟩

theorem spec_neg (u0 : Nat) (w : World) (h0 : 0 < u0) (h1 : (u0 : Int) ≤ 9223372036854775808) :
    Calls Tryz.prog 72 #[.int .i64 (-(u0 : Int))] w fun e w' => e = .returned (.string ⟨(Lib.itoa (-(u0 : Int))).toArray⟩) ∧ Below w.heap.size w w' := by
  have hi : Lib.itoa (-(u0 : Int)) = 45 :: dz u0 := by rw [dz_pos h0, Lib.itoa, if_pos (by omega)]; simp
  have Hi := Lib.hid hi
  clear hi
  have hz : (-(u0 : Int) == 0) = false := beq_eq_false_iff_ne.2 (by omega)
  have hneg : decide (-(u0 : Int) < 0) = true := by simp; omega
  go_enter Tryz.func72, Tryz.ntmps72
  go_wp2_with fail
  go_loopw [0, 4] (fun a s wr => ∃ (u : Nat) (acc : List UInt8), u ≤ u0 ∧ a = .int .i64 (-(u : Int)) ∧ s = .string ⟨acc.toArray⟩ ∧ (u = 0 ∨ 2 * acc.length + u ≤ u0 + 2) ∧ 2 * acc.length ≤ u0 + 4 ∧ Hid (dz u ++ acc = dz u0) ∧ Below w.heap.size w wr) (fun a _ _ => (-(intOf a)).toNat)
  case atStart => exact ⟨u0, [], Nat.le_refl _, rfl, rfl, by simp, by simp, by unfold Hid; simp, Below.refl _ _⟩
  case round =>
    obtain ⟨u, acc, hu, rfl, rfl, hlen, hlen2, hd, hbel⟩ := hrel
    by_cases hp : 0 < u
    · have hlen3 : 2 * acc.length + u ≤ u0 + 2 := by omega
      clear hlen
      have e1 : (-(u : Int) != 0) = true := by rw [bne_iff_ne]; omega
      have e2 : (-(u : Int)).tmod 10 = -((u : Int) % 10) := by rw [Int.neg_tmod, Int.tmod_eq_emod_of_nonneg (by omega)]
      have e3 : (-(u : Int)).tdiv 10 = -((u : Int) / 10) := by rw [Int.neg_tdiv, Int.tdiv_eq_ediv_of_nonneg (by omega)]
      have hs : dz (u / 10) ++ (UInt8.ofNat (48 + u % 10) :: acc) = dz u0 := by rw [← hd.out, dz_step hp]; simp
      have Hs := Lib.hid hs
      have hf : hex.fig ((u : Int) % 10).toNat = hex.fig (u % 10) := by congr 1
      have Hf : Hid (hex.fig (u % 10) = UInt8.ofNat (48 + u % 10)) := fig_dec _ (by omega)
      have Hc := Lib.hid (fun W => conv_one W (hex.fig (u % 10)))
      have hq : (-((u : Int) / 10)) = -((u / 10 : Nat) : Int) := by omega
      have Hq := Lib.hid hq
      clear hs hd hq
      by_cases hm : u % 10 = 0
      · have hm0 : (u : Int) % 10 = 0 := by omega
        have Hm := Lib.hid hm
        have hf0 : hex.fig (0 : Int).toNat = hex.fig (u % 10) := by rw [hm]; rfl
        clear hm hf
        go_wp2_with fail
        refine (hex.figure_any _ _ (by omega) (by omega)).mono ?_
        rintro e w1 ⟨rfl, rfl⟩
        have hc := Hc.out wr
        have hbel2 := hbel.alloc hbel.size (.cells #[.int .u8 (hex.fig (u % 10)).toNat] 5)
        rw [hf0]
        clear Hc hf0 hm0
        go_wp2_with fail
        go_roundw
        case rel => exact ⟨u / 10, UInt8.ofNat (48 + u % 10) :: acc, by omega, by rw [Hq.out], by rw [← Hf.out]; exact congrArg Value.string (bytes_cons _ _), by simp; omega, by simp; omega, Hs, hbel2⟩
        case measure => simp [intOf]; omega
      · have hlt : decide (-((u : Int) % 10) < 0) = true := by simp; omega
        have hlt2 : 0 < (u : Int) % 10 := by omega
        go_wp2_with fail
        refine (hex.figure_any _ _ (by omega) (by omega)).mono ?_
        rintro e w1 ⟨rfl, rfl⟩
        have hc := Hc.out wr
        have hbel2 := hbel.alloc hbel.size (.cells #[.int .u8 (hex.fig (u % 10)).toNat] 5)
        rw [hf]
        clear Hc hf
        go_wp2_with fail
        go_roundw
        case rel => exact ⟨u / 10, UInt8.ofNat (48 + u % 10) :: acc, by omega, by rw [Hq.out], by rw [← Hf.out]; exact congrArg Value.string (bytes_cons _ _), by simp; omega, by simp; omega, Hs, hbel2⟩
        case measure => simp [intOf]; omega
    · obtain rfl : u = 0 := by omega
      have ha : acc = dz u0 := by rw [← hd.out, dz_zero]; rfl
      subst ha
      go_wp2_with fail
      go_ret
      exact ⟨by rw [Hi.out]; exact ret_str (bytes_cons _ _), hbel⟩

/-- spec.Decimal at every int. -/
theorem spec_any (n : Int) (w : World) (h0 : -9223372036854775808 ≤ n) (h1 : n ≤ 9223372036854775807) :
    Calls Tryz.prog 72 #[.int .i64 n] w fun e w' => e = .returned (.string ⟨(Lib.itoa n).toArray⟩) ∧ Below w.heap.size w w' := by
  by_cases hz : n = 0
  · subst hz; exact spec_zero w
  · by_cases hp : 0 < n
    · obtain ⟨u, rfl⟩ := Int.eq_ofNat_of_zero_le (show 0 ≤ n by omega)
      exact spec_pos u w (by omega) h1
    · obtain ⟨u, hu⟩ := Int.eq_ofNat_of_zero_le (show 0 ≤ -n by omega)
      obtain rfl : n = -(u : Int) := by omega
      exact spec_neg u w (by omega) (by omega)
end Go.Proofs.YtangdmjdjiddcaaGreatDoor.decimal
namespace Go.Proofs.YtangdmjdjiddcaaGreatDoor.readnum
open Go.ChangeShapes Go.WideShapes Go.ChangeAt Go.RowKit
set_option linter.unusedVariables false

theorem spec_int (s : ByteArray) (w : World) (hs : s.size ≤ maxLen) :
    Calls Tryz.prog 52 #[.string s] w fun e w' => e = .returned (.tuple #[.int .i64 (res 9223372036854775807 s), .bool (flag 9223372036854775807 s)]) ∧ Below w.heap.size w w' := by
  unfold maxLen at hs
  generalize hM : (9223372036854775807 : Nat) = M
  by_cases h1 : 19 < s.size
  · have hno : ∀ n, ¬ Num M s n := fun n h => by have := num_len h 18 (by rw [← hM]; decide); omega
    have H1 := Lib.hid (no_flag hno)
    have H2 := Lib.hid (no_res hno)
    clear hno hM
    go_enter Tryz.func52, Tryz.ntmps52
    go_wp2_with fail
    go_ret2
    exact ⟨by rw [H1.out, H2.out]; rfl, Below.refl _ _⟩
  have h1' : s.size ≤ 19 := by omega
  have hle : ∀ n, Num M s n → v s s.size ≤ 9223372036854775807 := fun n h => by rw [num_v h, hM]; exact h.1
  have Hle := Lib.hid hle
  have Hyes : Hid (∀ n, n ≤ 9223372036854775807 → s.data.toList = Lib.decDigits n → Num M s n) := fun n h1 h2 => ⟨by rw [← hM]; exact h1, h2⟩
  clear h1 hM hle
  go_enter Tryz.func52, Tryz.ntmps52
  go_wp2_with fail
  go_loop [4, 5] (fun a i => ∃ k : Nat, k ≤ s.size ∧ i = .int .i64 k ∧ a = .int .i64 (v s k) ∧ (v s k : Int) ≤ 9223372036854775807 ∧ Hid (digs s k)) (fun _ i => s.size - (intOf i).toNat)
  case atStart => exact ⟨0, Nat.zero_le _, rfl, by rw [v_zero]; rfl, by rw [v_zero]; decide, fun j hj => by omega⟩
  case round =>
    obtain ⟨k, hk, rfl, rfl, hv, hd⟩ := hrel
    by_cases hlt : k < s.size
    · have ha := at_eq s k hlt
      have hb := at_bd s k
      by_cases c1 : at_ s k < 48
      · have hno : ∀ n, ¬ Num M s n := fun n h => by have := num_dig h k hlt; omega
        have H1 := Lib.hid (no_flag hno)
        have H2 := Lib.hid (no_res hno)
        clear hno
        go_wp2_with fail
        go_ret2
        exact ⟨by rw [H1.out, H2.out]; rfl, Below.refl _ _⟩
      by_cases c2 : 57 < at_ s k
      · have hno : ∀ n, ¬ Num M s n := fun n h => by have := num_dig h k hlt; omega
        have H1 := Lib.hid (no_flag hno)
        have H2 := Lib.hid (no_res hno)
        clear hno
        go_wp2_with fail
        go_ret2
        exact ⟨by rw [H1.out, H2.out]; rfl, Below.refl _ _⟩
      have hst := v_step s k hlt (by omega)
      by_cases c3 : (9223372036854775807 - (at_ s k - 48)) / 10 < (v s k : Int)
      · have hno : ∀ n, ¬ Num M s n := fun n h => by
          have h1 := Hle.out n h
          have h2 : v s (k + 1) ≤ v s s.size := v_mono s (k + 1)
          omega
        have H1 := Lib.hid (no_flag hno)
        have H2 := Lib.hid (no_res hno)
        clear hno hst
        go_wp2_with fail
        go_ret2
        exact ⟨by rw [H1.out, H2.out]; rfl, Below.refl _ _⟩
      have Hv : Hid ((v s (k + 1) : Int) ≤ 9223372036854775807) := by unfold Hid; omega
      have Hs := Lib.hid hst
      clear hst
      have Hd : Hid (digs s (k + 1)) := fun j hj => by
        by_cases e : j = k
        · subst e; omega
        · exact hd.out j (by omega)
      go_wp2_with fail
      go_round
      case rel => exact ⟨k + 1, by omega, by go_num, by rw [Hs.out]; go_num, Hv.out, Hd⟩
      case measure => simp [intOf]; omega
    · obtain rfl : k = s.size := by omega
      have HD := Lib.hid (decimal.spec_any (v s s.size) w (by omega) (by omega))
      by_cases c2 : s.data.toList = Lib.decDigits (v s s.size)
      · have hn : Num M s (v s s.size) := Hyes.out _ (by omega) c2
        have H1 := Lib.hid (yes_flag hn)
        have H2 := Lib.hid (yes_res hn)
        have hsame : (⟨(Lib.itoa (v s s.size : Int)).toArray⟩ : ByteArray) = s := by rw [num.itoa_nat, ← c2]
        have Hsame := Lib.hid hsame
        clear hn c2 hsame hd
        go_wp2_with fail
        refine HD.out.mono ?_
        rintro e w1 ⟨rfl, hb1⟩
        rw [Hsame.out]
        clear HD
        go_wp2_with fail
        go_ret2
        exact ⟨by rw [H1.out, H2.out]; rfl, hb1⟩
      · have hno : ∀ n, ¬ Num M s n := fun n h => c2 (by rw [num_v h]; exact h.2)
        have H1 := Lib.hid (no_flag hno)
        have H2 := Lib.hid (no_res hno)
        have hne : Lib.itoa (v s s.size : Int) ≠ s.data.toList := by rw [num.itoa_nat]; exact fun e => c2 e.symm
        have Hne := Lib.hid hne
        clear hno c2 hne hd
        go_wp2_with fail
        refine HD.out.mono ?_
        rintro e w1 ⟨rfl, hb1⟩
        have hx : (Lib.itoa (v s s.size : Int) == s.toList) = false := by
          rw [ByteArray.toList_eq, beq_eq_false_iff_ne]; exact Hne.out
        clear HD
        go_wp2_with fail
        go_ret2
        exact ⟨by rw [H1.out, H2.out]; rfl, hb1⟩
end Go.Proofs.YtangdmjdjiddcaaGreatDoor.readnum
namespace Go.Proofs.YtangdmjdjiddcaaGreatDoor.arith
open Go.ChangeShapes Go.WideShapes Go.ChangeAt Go.RowKit
set_option linter.unusedVariables false

theorem spec_mul (a b : Int) (w : World) (ha : -9223372036854775808 ≤ a ∧ a ≤ 9223372036854775807) (hb : -9223372036854775808 ≤ b ∧ b ≤ 9223372036854775807) :
    Calls Tryz.prog 31 #[.int .i64 a, .int .i64 b] w fun e w' => e = .returned (two (mulF a b)) ∧ w = w' := by
  by_cases h1 : a < 0
  · rw [mul_no (by omega), two_none]
    go_enter Tryz.func31, Tryz.ntmps31
    go_wp2
    go_ret2
    exact ⟨rfl, rfl⟩
  by_cases h2 : b < 0
  · rw [mul_no (by omega), two_none]
    go_enter Tryz.func31, Tryz.ntmps31
    go_wp2
    go_ret2
    exact ⟨rfl, rfl⟩
  by_cases h3 : b = 0
  · subst h3
    rw [mul_yes (by omega) (by omega) (by omega), two_some, Int.mul_zero]
    go_enter Tryz.func31, Tryz.ntmps31
    go_wp2
    go_ret2
    exact ⟨rfl, rfl⟩
  have hr := room (a := a) (b := b) (by omega)
  have hn : 0 ≤ a * b := Int.mul_nonneg (by omega) (by omega)
  by_cases h4 : a ≤ 9223372036854775807 / b
  · have h5 := hr.1 h4
    rw [mul_yes (by omega) (by omega) h5, two_some]
    clear hr
    go_enter Tryz.func31, Tryz.ntmps31
    go_wp2
    go_ret2
    exact ⟨rfl, rfl⟩
  · rw [mul_no (fun h => h4 (hr.2 h.2.2)), two_none]
    clear hr
    go_enter Tryz.func31, Tryz.ntmps31
    go_wp2
    go_ret2
    exact ⟨rfl, rfl⟩
end Go.Proofs.YtangdmjdjiddcaaGreatDoor.arith
