/- Merged: DigitsI WholeI. -/
import Derived.Test.YtegpcjkcejijpaaGreatDoorGNum
import Derived.Test.YtegpcjkcejijpaaGreatDoorGSc
import Derived.Test.YtegpcjkcejijpaaGreatDoorSplitI
import Derived.Test.YtegpcjkcejijpaaGreatDoorShelf
import Derived.WalkSpells
namespace Go.Proofs.YtegpcjkcejijpaaGreatDoor.split
open Go.ChangeShapes Go.WideShapes Go.ChangeAt Go.RowKit
set_option linter.unusedVariables false

def okD (f : ByteArray) : Bool := decide (0 < f.size ∧ (f.size = 1 ∨ at_ f 0 ≠ 48))
theorem okD_yes {f : ByteArray} (h : 0 < f.size) (h2 : f.size = 1 ∨ at_ f 0 ≠ 48) : okD f = true := decide_eq_true ⟨h, h2⟩
theorem okD_no {f : ByteArray} (h : f.size = 0 ∨ (1 < f.size ∧ at_ f 0 = 48)) : okD f = false := decide_eq_false (by rintro ⟨h1, h2⟩; omega)
theorem digits_any (f : ByteArray) (w : World) (hf : f.size ≤ maxLen) :
    Calls Tryz.prog 179 #[.string f] w fun e w' => e = .returned (.bool (okD f)) ∧ w = w' := by
  unfold maxLen at hf
  by_cases h0 : f.size = 0
  · rw [okD_no (.inl h0)]
    have he2 := empty_yes h0
    go_enter Tryz.func179, Tryz.ntmps179
    go_wp2_with fail
    go_ret
    exact ⟨rfl, rfl⟩
  have he2 := empty_no (f := f) (by omega)
  by_cases h1 : f.size = 1
  · rw [okD_yes (by omega) (.inl h1)]
    go_enter Tryz.func179, Tryz.ntmps179
    go_wp2_with fail
    go_ret
    exact ⟨rfl, rfl⟩
  have ha := at_eq f 0 (by omega)
  have hbd := at_bd f 0
  have hn1 : ¬ (f.size : Int) = 1 := by omega
  have e1 : ((f.size : Int) == 1) = false := by simpa using hn1
  by_cases h2 : at_ f 0 = 48
  · rw [okD_no (.inr ⟨by omega, h2⟩)]
    rw [h2] at ha
    go_enter Tryz.func179, Tryz.ntmps179
    go_wp2_with fail
    go_ret
    exact ⟨rfl, rfl⟩
  · rw [okD_yes (by omega) (.inr h2)]
    have e2 : (at_ f 0 == 48) = false := by simpa using h2
    have e3 : (at_ f 0 != 48) = true := by simpa using h2
    go_enter Tryz.func179, Tryz.ntmps179
    go_wp2_with fail
    go_ret
    exact ⟨rfl, rfl⟩
end Go.Proofs.YtegpcjkcejijpaaGreatDoor.split
namespace Go.Proofs.YtegpcjkcejijpaaGreatDoor.whole
open Go.ChangeShapes Go.WideShapes Go.ChangeAt Go.RowKit
set_option linter.unusedVariables false

def ErrVar (w : World) (n : String) : Prop := ∃ a : Addr, w.var? Tryz.prog n = some #[.iface 197 (.pointer (some a))]
theorem ErrVar.below {w w' : World} {n : String} (h : ErrVar w n) (hb : Below w.heap.size w w') : ErrVar w' n := by
  obtain ⟨a, h⟩ := h
  exact ⟨a, var_below h hb⟩

theorem drop_list (s : ByteArray) (p : Nat) : (s.extract p s.size).data.toList = s.data.toList.drop p := by
  rw [ByteArray.data_extract, Array.toList_extract, List.extract_eq_take_drop]
  apply List.take_of_length_le
  simp
/-- Behind the sign. -/
theorem trim_minus (s : ByteArray) (p : Nat) (hp : p < s.size) : Lib.trimPrefix (s.extract p s.size).data.toList [45] = s.data.toList.drop (head s p) := by
  have h2 : p < s.data.toList.length := by simpa using hp
  have hg : ((s.data.toList[p]).toNat : Int) = at_ s p := by
    unfold at_
    rw [List.getD_eq_getElem?_getD, List.getElem?_eq_getElem h2, Option.getD_some]
  rw [drop_list]
  unfold head Lib.trimPrefix Lib.hasPrefix
  rw [List.drop_eq_getElem_cons h2]
  generalize s.data.toList[p] = x at hg
  by_cases c : at_ s p = 45
  · have hx : x = 45 := UInt8.toNat.inj (by have : (45 : UInt8).toNat = 45 := rfl; omega)
    rw [if_pos c, hx]
    simp [List.isPrefixOf]
  · have hx : ¬ (45 : UInt8) = x := fun e => c (by rw [← hg, ← e]; rfl)
    rw [if_neg c]
    simp [List.isPrefixOf, hx]
    have : s.data.toList.drop p = x :: s.data.toList.drop (p + 1) := by
      rw [List.drop_eq_getElem_cons h2]
      congr 1
      exact UInt8.toNat.inj (by
        have hg2 : ((s.data.toList[p]).toNat : Int) = at_ s p := by
          unfold at_
          rw [List.getD_eq_getElem?_getD, List.getElem?_eq_getElem h2, Option.getD_some]
        omega)
    simpa using this.symm
theorem minus_any (s : ByteArray) (p : Nat) (hp : p < s.size) (w : World) :
    Calls Tryz.prog 178 #[.string (s.extract p s.size), .string ⟨#[45]⟩] w fun e w' => e = .returned (.string ⟨(s.data.toList.drop (head s p)).toArray⟩) ∧ w = w' := by
  refine (Tryz.strings_TrimPrefix _ _ w).mono ?_
  rintro e w' ⟨rfl, rfl⟩
  refine ⟨?_, rfl⟩
  rw [← trim_minus s p hp]
def idxF (x : Int) : Int := if x = 46 then 0 else if x = 101 then 1 else if x = 69 then 2 else -1
theorem indexF_all : ∀ n : Fin 256, Lib.indexByte [46, 101, 69] (UInt8.ofNat n.val) = idxF (n.val : Int) := by decide +kernel
theorem index_frac (x : Int) (w : World) (h0 : 0 ≤ x) (h1 : x < 256) :
    Calls Tryz.prog 88 #[.string ⟨#[46, 101, 69]⟩, .int .u8 x] w fun e w' => e = .returned (.int .i64 (idxF x)) ∧ w = w' := by
  refine (Tryz.strings_IndexByte _ x w).mono ?_
  rintro e w' ⟨rfl, rfl⟩
  have h := indexF_all ⟨x.toNat, by omega⟩
  refine ⟨ret_int ?_, rfl⟩
  have hx : ((x.toNat : Nat) : Int) = x := by omega
  simp only [hx] at h
  exact h

/-- What the two parts behind the sign are. -/
theorem back_size (s : ByteArray) (f : Nat) (hf : f ≤ s.size) : (⟨(s.data.toList.drop f).toArray⟩ : ByteArray).size = s.size - f := by
  show (s.data.toList.drop f).toArray.size = _
  rw [List.size_toArray, List.length_drop]
  simp
theorem back_at (s : ByteArray) (f k : Nat) : at_ ⟨(s.data.toList.drop f).toArray⟩ k = at_ s (f + k) := by
  unfold at_
  show (((s.data.toList.drop f).getD k 0).toNat : Int) = _
  rw [getD_drop]
theorem back_lead (s : ByteArray) (f : Nat) : split.lead ⟨(s.data.toList.drop f).toArray⟩ = run s f := rfl
theorem fst_at (t : ByteArray) (k : Nat) (h : k < split.lead t) : at_ (split.fst t) k = at_ t k := by
  unfold at_
  rw [split.fst_list, List.getD_eq_getElem?_getD, List.getElem?_take_of_lt h, List.getD_eq_getElem?_getD]
theorem snd_at (t : ByteArray) (k : Nat) : at_ (split.snd t) k = at_ t (split.lead t + k) := by
  unfold at_
  rw [split.snd_list, getD_drop]
theorem text_list (s : ByteArray) (p : Nat) (hp : p < s.size) : (s.extract p (head s p + run s (head s p))).data.toList = if at_ s p = 45 then 45 :: figs s (p + 1) else figs s p := by
  unfold head
  by_cases c : at_ s p = 45
  · rw [if_pos c, if_pos c, ByteArray.data_extract, Array.toList_extract, List.extract_eq_take_drop]
    have h2 : p < s.data.toList.length := by simpa using hp
    have hg : ((s.data.toList[p]).toNat : Int) = at_ s p := by
      unfold at_
      rw [List.getD_eq_getElem?_getD, List.getElem?_eq_getElem h2, Option.getD_some]
    have hx : s.data.toList[p] = 45 := UInt8.toNat.inj (by have : (45 : UInt8).toNat = 45 := rfl; omega)
    rw [List.drop_eq_getElem_cons h2, hx, show p + 1 + run s (p + 1) - p = run s (p + 1) + 1 by omega, List.take_succ_cons]
    rfl
  · rw [if_neg c, if_neg c]
    exact figs_extract s p

set_option maxHeartbeats 8000000 in
set_option maxRecDepth 100000 in
theorem impl_in (s : ByteArray) (p : Nat) (w : World) (hs : s.size ≤ 1048576) (hp : p < s.size) (hR : ErrVar w "strconv.ErrRange") :
    Calls Tryz.prog 152 #[.string s, .int .i64 p] w fun e w' => e = .returned (.tuple #[.int .i64 (wholeN s p).1, .int .i64 (wholeN s p).2]) ∧ Below w.heap.size w w' := by
  have hhl : head s p ≤ s.size := by unfold head; split <;> omega
  have hhp : p ≤ head s p := by unfold head; split <;> omega
  have hrl := run_le s (head s p) hhl
  have HM := Lib.hid (fun w => minus_any s p hp w)
  obtain ⟨t, ht⟩ : ∃ t : ByteArray, t = ⟨(s.data.toList.drop (head s p)).toArray⟩ := ⟨_, rfl⟩
  rw [← ht] at HM
  have htz : t.size = s.size - head s p := by rw [ht]; exact back_size s _ hhl
  have hlead : split.lead t = run s (head s p) := by rw [ht]; exact back_lead s _
  have HS := Lib.hid (fun w => split.impl_any t w (by unfold maxLen; omega))
  have hfz := split.fst_size t
  have hrz := split.snd_size t
  have hf0 : 0 < split.lead t → at_ (split.fst t) 0 = at_ s (head s p) := fun h => by rw [fst_at t 0 h, ht, back_at]; rfl
  have hr0 : at_ (split.snd t) 0 = at_ s (head s p + run s (head s p)) := by rw [snd_at t 0, Nat.add_zero, hlead, ht, back_at]
  have HD := Lib.hid (fun w => split.digits_any (split.fst t) w (by unfold maxLen; omega))
  obtain ⟨R, hRd⟩ : ∃ R, wholeN s p = R := ⟨_, rfl⟩
  rw [hRd]
  have HRd := Lib.hid hRd
  clear hRd
  have HX : Hid (∀ m : Nat, m = head s p + run s (head s p) → ¬ bad s (head s p) → (∃ v : Int, Lib.atoiAll (s.extract p m).data.toList = .ok v ∧ R = (v, (m : Int))) ∨ (Lib.atoiAll (s.extract p m).data.toList = .range ∧ R = (0, -1))) := by
    intro m hm hb
    have hc := figs_canon hb
    rw [hm, text_list s p hp, ← HRd.out]
    unfold wholeN
    rw [if_neg hb]
    unfold head at hc ⊢
    by_cases c : at_ s p = 45
    · rw [if_pos c] at hc ⊢
      rw [if_pos c, if_pos c, atoi_minus hc]
      by_cases h : spells s (p + 1) ≤ 9223372036854775808
      · rw [if_pos h, show num.foldD 0 (figs s (p + 1)) = spells s (p + 1) from rfl, if_pos h]
        exact .inl ⟨_, rfl, rfl⟩
      · rw [if_neg h, show num.foldD 0 (figs s (p + 1)) = spells s (p + 1) from rfl, if_neg h]
        exact .inr ⟨rfl, rfl⟩
    · rw [if_neg c] at hc ⊢
      rw [if_neg c, if_neg c, atoi_plain hc]
      by_cases h : spells s p ≤ 9223372036854775807
      · rw [if_pos h, show num.foldD 0 (figs s p) = spells s p from rfl, if_pos h]
        exact .inl ⟨_, rfl, rfl⟩
      · rw [if_neg h, show num.foldD 0 (figs s p) = spells s p from rfl, if_neg h]
        exact .inr ⟨rfl, rfl⟩
  have HB : Hid (bad s (head s p) → R = (0, -1)) := fun h => by rw [← HRd.out]; unfold wholeN; rw [if_pos h]
  clear HRd
  have d0 : decide ((p : Int) < 0) = false := decide_eq_false (by omega)
  generalize hF : split.fst t = f at *
  generalize hG : split.snd t = r at *
  by_cases b1 : split.okD f = false
  · have HR0 : Hid (R = (0, -1)) := by
      refine HB.out ?_
      by_cases b : bad s (head s p)
      · exact b
      · have hcan : 0 < run s (head s p) := by
          rcases Nat.eq_zero_or_pos (run s (head s p)) with e | e
          · exact absurd (.inl e) b
          · exact e
        rw [split.okD_yes (by omega) (by
          by_cases e : f.size = 1
          · exact .inl e
          · refine .inr fun e2 => b (.inr (.inl ⟨by omega, ?_⟩))
            rw [← hf0 (by omega)]
            exact e2)] at b1
        cases b1
    simp only [b1] at HD
    clear hF hG hf0 hr0 HX HB b1 hlead ht hR
    go_enter Tryz.func152, Tryz.ntmps152
    go_wp2_with fail
    refine (HM.out _).mono ?_
    rintro e w1 ⟨rfl, rfl⟩
    go_wp2_with fail
    refine (HS.out _).mono ?_
    rintro e w2 ⟨rfl, hb2⟩
    go_wp2_with fail
    refine (HD.out _).mono ?_
    rintro e w3 ⟨rfl, rfl⟩
    go_wp2_with fail
    go_ret2
    exact ⟨by rw [HR0.out]; rfl, hb2⟩
  have b1' : split.okD f = true := by cases h : split.okD f with
    | true => rfl
    | false => exact absurd h b1
  simp only [b1'] at HD
  have hnb12 : run s (head s p) ≠ 0 ∧ ¬ (1 < run s (head s p) ∧ at_ s (head s p) = 48) := by
    refine ⟨fun e => b1 (split.okD_no (.inl (by omega))), fun e => b1 (split.okD_no (.inr ⟨by omega, ?_⟩))⟩
    rw [hf0 (by omega)]
    exact e.2
  obtain ⟨m, hm⟩ : ∃ m : Nat, m = head s p + run s (head s p) := ⟨_, rfl⟩
  have hrz2 : r.size = s.size - m := by omega
  have hms : m ≤ s.size := by omega
  have hpm : p ≤ m := by omega
  rw [← hm] at hr0
  by_cases b3 : bad s (head s p)
  · have HR0 := Lib.hid (HB.out b3)
    have h3 : m < s.size ∧ (at_ s m = 46 ∨ at_ s m = 101 ∨ at_ s m = 69) := by
      unfold bad at b3
      rw [← hm] at b3
      rcases b3 with h | h | h
      · exact absurd h hnb12.1
      · exact absurd h hnb12.2
      · exact h
    have hr1 : 0 < r.size := by omega
    have he := empty_no (f := r) hr1
    have eat := at_eq r 0 hr1
    rw [hr0] at eat
    have HI : Hid (∀ w, Calls Tryz.prog 88 #[.string ⟨#[46, 101, 69]⟩, .int .u8 (at_ s m)] w fun e w' => (∃ j : Int, 0 ≤ j ∧ e = .returned (.int .i64 j)) ∧ w = w') := by
      intro w
      have hbd := at_bd s m
      refine (index_frac (at_ s m) w hbd.1 hbd.2).mono ?_
      rintro e w' ⟨rfl, rfl⟩
      refine ⟨⟨_, ?_, rfl⟩, rfl⟩
      unfold idxF
      rcases h3.2 with h | h | h <;> rw [h] <;> decide
    clear hF hG hf0 hr0 HX HB b1 b1' hlead ht hR hnb12 b3 h3 hm hfz hrz htz hrl hrz2
    go_enter Tryz.func152, Tryz.ntmps152
    go_wp2_with fail
    refine (HM.out _).mono ?_
    rintro e w1 ⟨rfl, rfl⟩
    go_wp2_with fail
    refine (HS.out _).mono ?_
    rintro e w2 ⟨rfl, hb2⟩
    go_wp2_with fail
    refine (HD.out _).mono ?_
    rintro e w3 ⟨rfl, rfl⟩
    go_wp2_with fail
    refine (HI.out _).mono ?_
    rintro e w3 ⟨⟨j, hj, rfl⟩, rfl⟩
    go_wp2_with fail
    go_ret2
    exact ⟨by rw [HR0.out]; rfl, hb2⟩
  have HXm := Lib.hid (HX.out m hm b3)
  have hno : m < s.size → idxF (at_ s m) = -1 := fun hlt => by
    have hn : ¬ (at_ s m = 46 ∨ at_ s m = 101 ∨ at_ s m = 69) := fun e => b3 (.inr (.inr (by rw [← hm]; exact ⟨hlt, e⟩)))
    unfold idxF
    rw [if_neg (fun e => hn (.inl e)), if_neg (fun e => hn (.inr (.inl e))), if_neg (fun e => hn (.inr (.inr e)))]
  have hez : (s.extract p m).size ≤ 281474976710656 := by rw [ByteArray.size_extract]; omega
  have hem : (s.size : Int) - (r.size : Int) = (m : Int) := by omega
  have hwm : IntKind.i64.wrap (m : Int) = (m : Int) := IntWalk.i64_in _ (by omega)
  obtain ⟨a2, hR⟩ := hR
  have HA : Hid (∀ w1, Below w.heap.size w w1 → Calls Tryz.prog 180 #[.string (s.extract p m)] w1 fun e w' => ((∃ v : Int, e = .returned (.tuple #[.int .i64 v, .nilIface]) ∧ R = (v, (m : Int))) ∨ (∃ v N, e = .returned (.tuple #[.int .i64 v, .iface 185 (.pointer (some ⟨N, 0, none⟩))]) ∧ R = (0, -1))) ∧ Below w1.heap.size w1 w') := by
    intro w1 hb
    rcases HXm.out with ⟨v, hok, hr⟩ | ⟨hra, hr⟩
    · refine (Tryz.strconv_Atoi_ok (s.extract p m) (by omega) v hok w1).mono ?_
      rintro e w' ⟨rfl, hw⟩
      refine ⟨.inl ⟨v, rfl, hr⟩, ?_⟩
      rcases hw with rfl | ⟨t, rfl⟩
      · exact Below.refl _ _
      · exact Lib.bytesWorld_below _ _ _
    · refine (Tryz.strconv_Atoi_range_var (s.extract p m) hez hra _ _ w1 (var_below hR hb)).mono ?_
      rintro e w' ⟨N, rfl, _, _, hb1⟩
      exact ⟨.inr ⟨_, N, rfl, hr⟩, hb1⟩
  by_cases hlt : m < s.size
  · have hr1 : 0 < r.size := by omega
    have he := empty_no (f := r) hr1
    have eat := at_eq r 0 hr1
    rw [hr0] at eat
    have hbd := at_bd s m
    have HI := Lib.hid (fun w => index_frac (at_ s m) w hbd.1 hbd.2)
    rw [hno hlt] at HI
    clear hF hG hf0 hr0 HX HB b1 b1' hlead ht hR hnb12 b3 hm hfz hrz htz hrl hrz2 HXm hno hez hhl hhp
    go_enter Tryz.func152, Tryz.ntmps152
    go_wp2_with fail
    refine (HM.out _).mono ?_
    rintro e w1 ⟨rfl, rfl⟩
    go_wp2_with fail
    refine (HS.out _).mono ?_
    rintro e w2 ⟨rfl, hb2⟩
    go_wp2_with fail
    refine (HD.out _).mono ?_
    rintro e w3 ⟨rfl, rfl⟩
    go_wp2_with fail
    refine (HI.out _).mono ?_
    rintro e w3 ⟨rfl, rfl⟩
    go_wp2_with fail
    refine (HA.out _ hb2).mono ?_
    rintro e w4 ⟨⟨v, rfl, hr⟩ | ⟨v, N, rfl, hr⟩, hb4⟩
    · have HR0 := Lib.hid hr
      clear hr
      go_wp2_with fail
      go_ret2
      exact ⟨by rw [HR0.out]; rfl, hb2.trans (hb4.mono hb2.size)⟩
    · have HR0 := Lib.hid hr
      clear hr
      go_wp2_with fail
      go_ret2
      exact ⟨by rw [HR0.out]; rfl, hb2.trans (hb4.mono hb2.size)⟩
  · have he := empty_yes (f := r) (by omega)
    clear hF hG hf0 hr0 HX HB b1 b1' hlead ht hR hnb12 b3 hm hfz hrz htz hrl hrz2 HXm hno hez hhl hhp
    go_enter Tryz.func152, Tryz.ntmps152
    go_wp2_with fail
    refine (HM.out _).mono ?_
    rintro e w1 ⟨rfl, rfl⟩
    go_wp2_with fail
    refine (HS.out _).mono ?_
    rintro e w2 ⟨rfl, hb2⟩
    go_wp2_with fail
    refine (HD.out _).mono ?_
    rintro e w3 ⟨rfl, rfl⟩
    go_wp2_with fail
    refine (HA.out _ hb2).mono ?_
    rintro e w4 ⟨⟨v, rfl, hr⟩ | ⟨v, N, rfl, hr⟩, hb4⟩
    · have HR0 := Lib.hid hr
      clear hr
      go_wp2_with fail
      go_ret2
      exact ⟨by rw [HR0.out]; rfl, hb2.trans (hb4.mono hb2.size)⟩
    · have HR0 := Lib.hid hr
      clear hr
      go_wp2_with fail
      go_ret2
      exact ⟨by rw [HR0.out]; rfl, hb2.trans (hb4.mono hb2.size)⟩
theorem impl_whole (s : ByteArray) (a : Int) (w : World) (hs : s.size ≤ 1048576) (hR : ErrVar w "strconv.ErrRange") :
    Calls Tryz.prog 152 #[.string s, .int .i64 a] w fun e w' => e = .returned (.tuple #[.int .i64 (wholeF s a).1, .int .i64 (wholeF s a).2]) ∧ Below w.heap.size w w' := by
  by_cases h : 0 ≤ a ∧ a < s.size
  · obtain ⟨p, rfl⟩ := Int.eq_ofNat_of_zero_le h.1
    rw [whole_in (by omega)]
    exact impl_in s p w hs (by omega) hR
  · rw [whole_out h]
    clear hR
    rcases (by omega : a < 0 ∨ (s.size : Int) ≤ a) with c | c
    all_goals
      go_enter Tryz.func152, Tryz.ntmps152
      go_wp2_with fail
      go_ret2
      exact ⟨rfl, Below.refl _ _⟩
end Go.Proofs.YtegpcjkcejijpaaGreatDoor.whole
