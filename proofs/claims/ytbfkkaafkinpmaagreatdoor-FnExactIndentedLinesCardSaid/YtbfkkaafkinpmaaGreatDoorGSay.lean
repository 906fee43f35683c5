/- Merged: DecimalI SayJ SayK5 SayK6 SayI. -/
import Derived.Test.YtbfkkaafkinpmaaGreatDoorBase
import Derived.Test.YtbfkkaafkinpmaaGreatDoorRows
import Derived.Test.YtbfkkaafkinpmaaGreatDoorShelf
import Derived.ProofKit
import Derived.OpenShut
import Derived.Stop.LaidErr
import Derived.Test.YtbfkkaafkinpmaaGreatDoorGInd
import Derived.Test.YtbfkkaafkinpmaaGreatDoorGTo
import Derived.Test.YtbfkkaafkinpmaaGreatDoorGQuI
import Derived.Deep.Cut
namespace Go.Proofs.YtbfkkaafkinpmaaGreatDoor.decimal
open Go.ChangeShapes Go.WideShapes Go.ChangeAt Go.RowKit
set_option linter.unusedVariables false

/-- The table of powers of ten holds what its text lays. -/
def Pow (w : World) : Prop := Lib.TabIs Tryz.prog w "internal/strconv.uint64pow10" .u64 Lib.pow10Tab
theorem Pow.below {w w' : World} (h : Pow w) (hb : Below w.heap.size w w') : Pow w' := var_below h hb

theorem grow_below (w : World) (k : Nat) (os : Array Obj) : Below w.heap.size w (Go.Sort.grow (w.drewN k) os) :=
  ⟨rfl, rfl, rfl, by simp [Go.Sort.grow], fun i hi => by
    show (w.heap ++ os)[i]? = w.heap[i]?
    rw [Array.getElem?_append_left hi]⟩

theorem impl_any (n : Int) (w : World) (h0 : -9223372036854775808 ≤ n) (h1 : n ≤ 9223372036854775807) (ht : Pow w) :
    Calls Tryz.prog 64 #[.int .i64 n] w fun e w' => e = .returned (.string ⟨(Lib.itoa n).toArray⟩) ∧ Below w.heap.size w w' := by
  have HI := Lib.hid (Tryz.strconv_Itoa n h0 h1 w ht)
  clear ht
  go_enter Tryz.func64, Tryz.ntmps64
  go_wp2_with fail
  refine HI.out.mono ?_
  rintro e w' ⟨rfl, k, os, rfl⟩
  have hb := grow_below w k os
  generalize Go.Sort.grow (w.drewN k) os = w2 at hb
  go_wp2_with fail
  go_ret
  exact ⟨rfl, hb⟩
end Go.Proofs.YtbfkkaafkinpmaaGreatDoor.decimal
namespace Go.Proofs.YtbfkkaafkinpmaaGreatDoor.say
open Go.ChangeShapes Go.WideShapes Go.ChangeAt Go.RowKit tree
open rune (Tabs)
open decimal (Pow)
set_option linter.unusedVariables false

def by_ (l : List UInt8) : ByteArray := ⟨l.toArray⟩
noncomputable def items (k : Int) (ks : List ByteArray) (kids : List T) : List (List UInt8) := if k = 6 then List.zipWith pairL ks (kids.map say) else kids.map say
theorem join_intercalate : ∀ l : List (List UInt8), Lib.join l [44] = joinC l
  | [] => rfl
  | [x] => by simp [Lib.join, List.intercalate, joinC]
  | x :: y :: r => by
    have ih := join_intercalate (y :: r)
    unfold Lib.join List.intercalate at ih ⊢
    rw [List.intersperse_cons_cons, List.flatten_cons, List.flatten_cons, ih]
    simp [joinC]
theorem join_bytes (l : List (List UInt8)) : Lib.join ((l.map by_).map (·.data.toList)) (⟨#[44]⟩ : ByteArray).data.toList = joinC l := by
  have e : (l.map by_).map (·.data.toList) = l := by
    rw [List.map_map]
    exact List.map_id'' (fun x => rfl) l
  rw [e]
  exact join_intercalate l
theorem length_le_sizes : ∀ l : List T, l.length ≤ sizes l
  | [] => Nat.zero_le _
  | t :: r => by
    have := length_le_sizes r
    rw [sizes, List.length_cons]
    obtain ⟨k, f, n, s, ks, kids⟩ := t
    rw [size]
    omega
theorem join_any (L : List (List UInt8)) (A : Option Addr) (c : Nat) (w : World) (hc : L.length ≤ c) (hrd : Rd w A L.length (scells (L.map by_))) (hN : L.length ≤ 140737488355328) (hlen : (joinC L).length ≤ 140737488355328) :
    Calls Tryz.prog 65 #[.slice A L.length c, .string ⟨#[44]⟩] w fun e w' => e = .returned (.string (by_ (joinC L))) ∧ Below w.heap.size w w' := by
  cases L with
  | nil => exact (Tryz.strings_Join_none A c ⟨#[44]⟩ w).mono fun e w' h => ⟨h.1, by rw [h.2]; exact Below.refl _ _⟩
  | cons x r =>
    obtain ⟨g, o, rfl, hg, hcc⟩ := hrd.2 (by simp)
    have h := Tryz.strings_Join g o c ((x :: r).map by_) ⟨#[44]⟩ w (fun j y hy => hcc j (by have := (List.getElem?_eq_some_iff.1 hy).1; simpa using this) _ (by simp only [scells, List.getElem?_map] at hy ⊢; rw [hy]; rfl)) hg (by rw [List.length_map]; exact hN) (by rw [List.length_map]; exact hc) (by rw [join_bytes]; exact hlen)
    rw [join_bytes, List.length_map] at h
    exact h
theorem word_true : (⟨(Lib.formatBool true).toArray⟩ : ByteArray) = by_ trueL := by decide
theorem word_false : (⟨(Lib.formatBool false).toArray⟩ : ByteArray) = by_ falseL := by decide
theorem one_of_lie {w : World} {f : Nat} {u : Value} {d : C} (h : Lies w f u d) : u.oneCell' = true := by
  match f, d, h with
  | f + 1, .int k n, h => obtain ⟨rfl, _⟩ := h; rfl
  | f + 1, .bool b, h => obtain rfl := (show u = .bool b from h); rfl
  | f + 1, .str s, h => obtain ⟨rfl, _⟩ := h; rfl
  | f + 1, .sl size n cells, h => obtain ⟨A, c, rfl, _⟩ := h; rfl
theorem one_of_lies {w : World} {f : Nat} {vs : List Value} {ds : List C} (h : LiesS w f vs ds) : ∀ u ∈ vs, u.oneCell' = true := fun u hu => by
  obtain ⟨i, hi, rfl⟩ := List.getElem_of_mem hu
  exact one_of_lie (h.2 i _ _ (List.getElem?_eq_getElem hi) (List.getElem?_eq_getElem (by rw [← h.1]; exact hi)))
def KidsOut (w : World) (l : List (List UInt8)) (e : Ending) (w' : World) : Prop :=
  ∃ A c, e = .returned (.slice A l.length c) ∧ l.length ≤ c ∧ Rd w' A l.length (scells (l.map by_)) ∧ Below w.heap.size w w'
def OfI (f : Nat) : Prop := ∀ (t : T) (vs : List Value) (w : World), LiesS w f vs (row t) → Shape t → (say t).length ≤ 1099511627776 → size t ≤ 1099511627776 → Pow w → Tabs w →
    Calls Tryz.prog 51 #[.agg vs.toArray] w fun e w' => e = .returned (.string (by_ (say t))) ∧ Below w.heap.size w w'
end Go.Proofs.YtbfkkaafkinpmaaGreatDoor.say
namespace Go.Proofs.YtbfkkaafkinpmaaGreatDoor.say
open Go.ChangeShapes Go.WideShapes Go.ChangeAt Go.RowKit tree
open rune (Tabs)
open decimal (Pow)
set_option linter.unusedVariables false

set_option maxRecDepth 1000000 in
set_option maxHeartbeats 8000000 in
theorem impl_kids5 (f : Nat) (hIH : OfI f) (fl : Bool) (n : Int) (s : ByteArray) (ks : List ByteArray) (kids : List T) (A1 A2 : Option Addr) (c1 c2 : Nat) (w : World) (hk : KidsAt w f A2 kids) (hr : Rd w A1 ks.length (scells ks)) (hko : KeysOk ks) (hk8 : True) (hkd : ∀ x ∈ kids, Shape x)
    (hc1 : ks.length ≤ c1) (hc2 : c1 ≤ maxLen) (hc3 : kids.length ≤ c2) (hc4 : c2 ≤ maxLen) (hroom : (joinC (kids.map say)).length ≤ 1099511627776) (hsz : sizes kids ≤ 1099511627776) (hP : Pow w) (hT : Tabs w) :
    Calls Tryz.prog 66 #[.agg #[.int .i64 5, .bool fl, .int .i64 n, .string s, .slice A1 ks.length c1, .slice A2 kids.length c2]] w (KidsOut w (kids.map say)) := by
  obtain ⟨i0, hi, hz0, hz1, hz2⟩ := info_parts TryzinfoStr'
  obtain ⟨w1, hw1⟩ : ∃ w1, w1 = w.alloc (.cells #[.int .i64 5, .bool fl, .int .i64 n, .string s, .slice A1 ks.length c1, .slice A2 kids.length c2] 30) := ⟨_, rfl⟩
  have hsz1 : w1.heap.size = w.heap.size + 1 := by rw [hw1]; simp
  have hb1 : Below w.heap.size w w1 := by rw [hw1]; exact (Below.refl _ _).alloc (Nat.le_refl _) _
  have hbox1 : w1.heap[w.heap.size]? = some (.cells #[.int .i64 5, .bool fl, .int .i64 n, .string s, .slice A1 ks.length c1, .slice A2 kids.length c2] 30 (0, 0)) := by rw [hw1]; exact heap_alloc_new w _
  have Hw1 := Lib.hid hw1
  have Hb1 := Lib.hid hb1
  have Hsz1 := Lib.hid hsz1
  have Hbox1 := Lib.hid hbox1
  have Hk := Lib.hid (hk.below hb1)
  have Hr := Lib.hid (hr.below hb1)
  have Hkd := Lib.hid hkd
  have Hko := Lib.hid hko
  have HP := Lib.hid (hP.below hb1)
  have HT := Lib.hid (hT.below hb1)
  have HIH := Lib.hid hIH
  have hil : (kids.map say).length = kids.length := by rw [List.length_map]
  have hown0 : (w1.alloc (.cells #[] 9)).ownsRow w1.heap.size 9 1 (.slice (some ⟨w1.heap.size, 0, none⟩) 0 0) 0 (scells []) := World.ownsRow_lit w1 #[] 0 (Nat.le_refl _) (by simp [maxLen]) rfl
  have Hown0 := Lib.hid hown0
  have Hbw0 := Lib.hid (show Below w1.heap.size w1 (w1.alloc (.cells #[] 9)) from (Below.refl _ _).alloc (Nat.le_refl _) _)
  have hkl := Nat.le_trans (length_le_sizes kids) hsz
  have Hk8 := Lib.hid hk8
  clear hk hr hkd hko hP hT hIH hb1 hown0 hsz1 hw1 hk8
  unfold maxLen at hc4 hc2
  go_enter Tryz.func66, Tryz.ntmps66
  go_upto_region 1 with fail
  rw [← Hw1.out]
  clear Hw1
  have p5 : (w1.alloc (.cells #[] 9)).cell? ⟨w.heap.size, 5, none⟩ = some (.slice A2 kids.length c2) := (Row6.of (heap_kept Hbw0.out (heap_lt hbox1) hbox1)).2.2.2.2.2
  clear hbox1
  go_wp2_with fail
  clear p5
  go_loopw [3, 11] (fun v i wr => ∃ (j : Nat) (l : List ByteArray), j ≤ kids.length ∧ i = .int .i64 j ∧ Hid (l = ((kids.map say).take j).map by_) ∧ wr.ownsRow w1.heap.size 9 1 v j (scells l) ∧ Below w1.heap.size w1 wr) (fun _ i _ => kids.length - (intOf i).toNat)
  case atStart => exact ⟨0, [], Nat.zero_le _, rfl, rfl, Hown0.out, Hbw0.out⟩
  case round =>
    clear Hown0 Hbw0
    obtain ⟨j, l, hj, rfl, hl, hown, hbel⟩ := hrel
    have hszr := hbel.size
    by_cases hlt : j < kids.length
    · have hit : (kids.map say)[j]'(by omega) = say kids[j] := by rw [List.getElem_map]
      have hsay : (say kids[j]).length ≤ 1099511627776 := by
        have h1 := join_take (kids.map say) j (by omega)
        have h2 := join_len (kids.map say) (j + 1)
        rw [hit] at h1
        rw [h1] at h2
        split at h2
        · try simp only [List.length_append, List.length_cons] at h2
          omega
        · simp only [List.length_append, List.length_cons] at h2; omega
      have Hl2 := Lib.hid (show (((kids.map say).take (j + 1)).map by_) = l ++ [by_ (say kids[j])] by rw [List.take_succ_eq_append_getElem (by omega), List.map_append, hl.out, hit]; rfl)
      obtain ⟨g, o, rfl, hg, hkid⟩ := Hk.out (by omega)
      obtain ⟨u0, u1, u2, u3, u4, u5, hsix, hls⟩ := hkid j kids[j] (List.getElem?_eq_getElem hlt)
      have hone : (#[u0, u1, u2, u3, u4, u5] : Array Value).all (·.oneCell') = true := by have := one_of_lies hls; simpa using this
      have HC := Lib.hid (fun w' (hb : Below w1.heap.size w1 w') => HIH.out kids[j] _ w' (hls.below hb) (Hkd.out _ (List.getElem_mem hlt)) hsay (Nat.le_trans (sizes_le_mem (List.getElem_mem hlt)) hsz) (HP.out.below hb) (HT.out.below hb))
      obtain ⟨q0, q1, q2, q3, q4, q5⟩ := hsix.block (hbel.block g hg)
      have hboxr := heap_kept hbel (heap_lt Hbox1.out) Hbox1.out
      obtain ⟨p0, p1, p2, p3, p4, p5⟩ := Row6.of hboxr
      obtain ⟨y, hy⟩ : ∃ y, by_ (say kids[j]) = y := ⟨_, rfl⟩
      have hyz : y.size ≤ 1099511627776 := by rw [← hy]; show (say kids[j]).toArray.size ≤ _; rw [List.size_toArray]; exact hsay
      rw [hy] at HC Hl2
      clear hkid hls hsix hit hsay hy
      obtain ⟨w4, hw4⟩ : ∃ w4, w4 = wr.alloc (.cells #[u0, u1, u2, u3, u4, u5] 30) := ⟨_, rfl⟩
      have hb4 : Below w1.heap.size w1 w4 := by rw [hw4]; exact hbel.alloc hszr _
      obtain ⟨r0, r1, r2, r3, r4, r5⟩ : Row6 w4 wr.heap.size u0 u1 u2 u3 u4 u5 := by rw [hw4]; exact Row6.of (heap_alloc_new wr _)
      have hown4 := hown.alloc (.cells #[u0, u1, u2, u3, u4, u5] 30)
      rw [← hw4] at hown4
      have Hw4 := Lib.hid hw4
      have Hb4 := Lib.hid hb4
      have Hown4 := Lib.hid hown4
      rw [hw4] at r0 r1 r2 r3 r4 r5
      clear hw4 hb4 hown hown4 hboxr
      go_wp2_with (first | (refine wpList_store_row rfl 30 _ _ rfl wr.heap.size #[u0, u1, u2, u3, u4, u5] rfl rfl 30 _ (heap_alloc_new wr _) tree_size' rfl hone ?_; rw [World.setRow_alloc_new]) | fail)
      rw [← Hw4.out]
      refine (HC.out w4 Hb4.out).mono ?_
      rintro e w5 ⟨rfl, hb5⟩
      have hbel5 := Hb4.out.trans (hb5.mono Hb4.out.size)
      have hown5 := own_below Hown4.out hb5
      have hbox5 := heap_kept hbel5 (heap_lt Hbox1.out) Hbox1.out
      have Hbel5 := Lib.hid hbel5
      clear HC r0 r1 r2 r3 r4 r5 p0 p1 p2 p3 p4 p5 q0 q1 q2 q3 q4 q5 hb5 Hown4 Hb4 Hw4 hbel hszr
      obtain ⟨p0, p1, p2, p3, p4, p5⟩ := Row6.of hbox5
      have hsz5 := hbel5.size
      go_wp2_with (first | (at_builtin; refine wpList_append_own _ rfl (.tmp 30) (.tmp 32) 22 rfl w1.heap.size 9 i0 (.string ⟨#[]⟩) 1 16 Tryz.underlying22 hi hz0 hz1 hz2 rfl (by decide) _ j _ rfl (hown5.alloc _) ⟨w5.heap.size, 0, none⟩ 1 1 [.string (y)] rfl rfl (by exact lit_cells _ _ _) (by intro u hu; simp at hu; subst hu; rfl) (by unfold maxLen; omega) (by omega) (by simp; omega) ?_) | fail)
      intro v7 w7 hown7 hg7 _
      have hbel7 := (hbel5.alloc hsz5 _).grown hg7 (by simp; omega) (fun b hb => (hown5.lt b hb).1)
      have Hown7 := Lib.hid (show w7.ownsRow w1.heap.size 9 1 v7 (j + 1) (scells (l ++ [y])) by
        have h := hown7
        rwa [show scells l ++ [Value.string (y)] = scells (l ++ [y]) by simp [scells]] at h)
      have Hbel7 := Lib.hid hbel7
      clear hown7 hg7 hown5 hbel5 hsz5 hbel7 p0 p1 p2 p3 p4 p5 hbox5
      go_wp2_with fail
      go_roundw
      case rel => exact ⟨j + 1, _, by omega, by go_num, Hl2.out.symm, Hown7.out, Hbel7.out⟩
      case measure => simp [intOf]; omega
    · obtain rfl : j = kids.length := by omega
      have Hl9 := Lib.hid (show l = (kids.map say).map by_ by rw [hl.out, List.take_of_length_le (by omega)])
      obtain ⟨A9, c9, rfl, hn9, hc9, hr9⟩ := Rd.of_own hown
      have Hr9 := Lib.hid hr9
      have Hb9 := Lib.hid (Hb1.out.trans (hbel.mono Hb1.out.size))
      have Hn9 := Lib.hid hn9
      clear hown hbel hl hr9
      go_wp2_with fail
      go_ret
      refine ⟨A9, c9, by rw [hil]; rfl, by rw [hil]; exact Hn9.out, ?_, Hb9.out⟩
      rw [← Hl9.out, hil]
      exact Hr9.out
end Go.Proofs.YtbfkkaafkinpmaaGreatDoor.say
namespace Go.Proofs.YtbfkkaafkinpmaaGreatDoor.say
open Go.ChangeShapes Go.WideShapes Go.ChangeAt Go.RowKit tree
open rune (Tabs)
open decimal (Pow)
set_option linter.unusedVariables false

set_option maxRecDepth 1000000 in
set_option maxHeartbeats 8000000 in
theorem impl_kids6 (f : Nat) (hIH : OfI f) (fl : Bool) (n : Int) (s : ByteArray) (ks : List ByteArray) (kids : List T) (A1 A2 : Option Addr) (c1 c2 : Nat) (w : World) (hk : KidsAt w f A2 kids) (hr : Rd w A1 ks.length (scells ks)) (hko : KeysOk ks) (hk8 : ks.length = kids.length) (hkd : ∀ x ∈ kids, Shape x)
    (hc1 : ks.length ≤ c1) (hc2 : c1 ≤ maxLen) (hc3 : kids.length ≤ c2) (hc4 : c2 ≤ maxLen) (hroom : (joinC (List.zipWith pairL ks (kids.map say))).length ≤ 1099511627776) (hsz : sizes kids ≤ 1099511627776) (hP : Pow w) (hT : Tabs w) :
    Calls Tryz.prog 66 #[.agg #[.int .i64 6, .bool fl, .int .i64 n, .string s, .slice A1 ks.length c1, .slice A2 kids.length c2]] w (KidsOut w (List.zipWith pairL ks (kids.map say))) := by
  obtain ⟨i0, hi, hz0, hz1, hz2⟩ := info_parts TryzinfoStr'
  obtain ⟨w1, hw1⟩ : ∃ w1, w1 = w.alloc (.cells #[.int .i64 6, .bool fl, .int .i64 n, .string s, .slice A1 ks.length c1, .slice A2 kids.length c2] 30) := ⟨_, rfl⟩
  have hsz1 : w1.heap.size = w.heap.size + 1 := by rw [hw1]; simp
  have hb1 : Below w.heap.size w w1 := by rw [hw1]; exact (Below.refl _ _).alloc (Nat.le_refl _) _
  have hbox1 : w1.heap[w.heap.size]? = some (.cells #[.int .i64 6, .bool fl, .int .i64 n, .string s, .slice A1 ks.length c1, .slice A2 kids.length c2] 30 (0, 0)) := by rw [hw1]; exact heap_alloc_new w _
  have Hw1 := Lib.hid hw1
  have Hb1 := Lib.hid hb1
  have Hsz1 := Lib.hid hsz1
  have Hbox1 := Lib.hid hbox1
  have Hk := Lib.hid (hk.below hb1)
  have Hr := Lib.hid (hr.below hb1)
  have Hkd := Lib.hid hkd
  have Hko := Lib.hid hko
  have HP := Lib.hid (hP.below hb1)
  have HT := Lib.hid (hT.below hb1)
  have HIH := Lib.hid hIH
  have hil : (List.zipWith pairL ks (kids.map say)).length = kids.length := by rw [List.length_zipWith, List.length_map, hk8, Nat.min_self]
  have hown0 : (w1.alloc (.cells #[] 9)).ownsRow w1.heap.size 9 1 (.slice (some ⟨w1.heap.size, 0, none⟩) 0 0) 0 (scells []) := World.ownsRow_lit w1 #[] 0 (Nat.le_refl _) (by simp [maxLen]) rfl
  have Hown0 := Lib.hid hown0
  have Hbw0 := Lib.hid (show Below w1.heap.size w1 (w1.alloc (.cells #[] 9)) from (Below.refl _ _).alloc (Nat.le_refl _) _)
  have hkl := Nat.le_trans (length_le_sizes kids) hsz
  have Hk8 := Lib.hid hk8
  clear hk hr hkd hko hP hT hIH hb1 hown0 hsz1 hw1 hk8
  unfold maxLen at hc4 hc2
  go_enter Tryz.func66, Tryz.ntmps66
  go_upto_region 1 with fail
  rw [← Hw1.out]
  clear Hw1
  have p5 : (w1.alloc (.cells #[] 9)).cell? ⟨w.heap.size, 5, none⟩ = some (.slice A2 kids.length c2) := (Row6.of (heap_kept Hbw0.out (heap_lt hbox1) hbox1)).2.2.2.2.2
  clear hbox1
  go_wp2_with fail
  clear p5
  go_loopw [3, 11] (fun v i wr => ∃ (j : Nat) (l : List ByteArray), j ≤ kids.length ∧ i = .int .i64 j ∧ Hid (l = ((List.zipWith pairL ks (kids.map say)).take j).map by_) ∧ wr.ownsRow w1.heap.size 9 1 v j (scells l) ∧ Below w1.heap.size w1 wr) (fun _ i _ => kids.length - (intOf i).toNat)
  case atStart => exact ⟨0, [], Nat.zero_le _, rfl, rfl, Hown0.out, Hbw0.out⟩
  case round =>
    clear Hown0 Hbw0
    obtain ⟨j, l, hj, rfl, hl, hown, hbel⟩ := hrel
    have hszr := hbel.size
    by_cases hlt : j < kids.length
    · have hit : (List.zipWith pairL ks (kids.map say))[j]'(by omega) = quoteL (ks[j]'(by have := Hk8.out; omega)) ++ 58 :: say kids[j] := by rw [List.getElem_zipWith, List.getElem_map]; rfl
      have hsay : (say kids[j]).length ≤ 1099511627776 := by
        have h1 := join_take (List.zipWith pairL ks (kids.map say)) j (by omega)
        have h2 := join_len (List.zipWith pairL ks (kids.map say)) (j + 1)
        rw [hit] at h1
        rw [h1] at h2
        split at h2
        · try simp only [List.length_append, List.length_cons] at h2
          omega
        · simp only [List.length_append, List.length_cons] at h2; omega
      have Hl2 := Lib.hid (show (((List.zipWith pairL ks (kids.map say)).take (j + 1)).map by_) = l ++ [by_ (quoteL (ks[j]'(by have := Hk8.out; omega)) ++ 58 :: say kids[j])] by rw [List.take_succ_eq_append_getElem (by omega), List.map_append, hl.out, hit]; rfl)
      obtain ⟨g, o, rfl, hg, hkid⟩ := Hk.out (by omega)
      obtain ⟨u0, u1, u2, u3, u4, u5, hsix, hls⟩ := hkid j kids[j] (List.getElem?_eq_getElem hlt)
      have hone : (#[u0, u1, u2, u3, u4, u5] : Array Value).all (·.oneCell') = true := by have := one_of_lies hls; simpa using this
      have HC := Lib.hid (fun w' (hb : Below w1.heap.size w1 w') => HIH.out kids[j] _ w' (hls.below hb) (Hkd.out _ (List.getElem_mem hlt)) hsay (Nat.le_trans (sizes_le_mem (List.getElem_mem hlt)) hsz) (HP.out.below hb) (HT.out.below hb))
      obtain ⟨q0, q1, q2, q3, q4, q5⟩ := hsix.block (hbel.block g hg)
      have hboxr := heap_kept hbel (heap_lt Hbox1.out) Hbox1.out
      obtain ⟨p0, p1, p2, p3, p4, p5⟩ := Row6.of hboxr
      have hltk : j < ks.length := by have := Hk8.out; omega
      obtain ⟨gk, ok, rfl, hgk, hck⟩ := Hr.out.2 (by omega)
      have hcell0 := hck j hltk _ (scells_get ks j hltk)
      have hkey : (ks[j]).size ≤ 1048576 := Nat.le_trans (by have := (Hko.out j hltk).1.1; rwa [List.getD_eq_getElem?_getD, List.getElem?_eq_getElem hltk] at this) (show 400 ≤ 1048576 by omega)
      have HQ := Lib.hid (fun w' (hb : Below w1.heap.size w1 w') => quote.impl_quoted ks[j] w' hkey (HT.out.below hb))
      have Hq2 := Lib.hid (show ∀ d, quote.quotedF ks[j] = d → by_ (quoteL ks[j] ++ 58 :: say kids[j]) = d ++ ⟨#[58]⟩ ++ by_ (say kids[j]) from fun d hd => by
        subst hd
        apply ByteArray.ext
        apply Array.ext'
        simp [by_, quoteL])
      obtain ⟨d, hd⟩ : ∃ d, quote.quotedF ks[j] = d := ⟨_, rfl⟩
      rw [hd] at HQ
      have hdz : d.size ≤ 6291458 := by
        have h := quoteL_le ks[j]
        unfold quoteL at h
        rw [hd] at h
        have e : d.data.toList.length = d.size := by simp
        omega
      have hfin := Hq2.out d hd
      rw [hfin] at Hl2
      have Hcell0 := Lib.hid hcell0
      clear hck hkey Hq2 hd hfin hcell0
      generalize ks[j] = key at HQ Hcell0
      obtain ⟨y, hy⟩ : ∃ y, by_ (say kids[j]) = y := ⟨_, rfl⟩
      have hyz : y.size ≤ 1099511627776 := by rw [← hy]; show (say kids[j]).toArray.size ≤ _; rw [List.size_toArray]; exact hsay
      rw [hy] at HC Hl2
      clear hkid hls hsix hit hsay hy
      obtain ⟨w4, hw4⟩ : ∃ w4, w4 = wr.alloc (.cells #[u0, u1, u2, u3, u4, u5] 30) := ⟨_, rfl⟩
      have hb4 : Below w1.heap.size w1 w4 := by rw [hw4]; exact hbel.alloc hszr _
      obtain ⟨r0, r1, r2, r3, r4, r5⟩ : Row6 w4 wr.heap.size u0 u1 u2 u3 u4 u5 := by rw [hw4]; exact Row6.of (heap_alloc_new wr _)
      have hown4 := hown.alloc (.cells #[u0, u1, u2, u3, u4, u5] 30)
      rw [← hw4] at hown4
      have Hw4 := Lib.hid hw4
      have Hb4 := Lib.hid hb4
      have Hown4 := Lib.hid hown4
      rw [hw4] at r0 r1 r2 r3 r4 r5
      clear hw4 hb4 hown hown4 hboxr
      go_wp2_with (first | (refine wpList_store_row rfl 30 _ _ rfl wr.heap.size #[u0, u1, u2, u3, u4, u5] rfl rfl 30 _ (heap_alloc_new wr _) tree_size' rfl hone ?_; rw [World.setRow_alloc_new]) | fail)
      rw [← Hw4.out]
      refine (HC.out w4 Hb4.out).mono ?_
      rintro e w5 ⟨rfl, hb5⟩
      have hbel5 := Hb4.out.trans (hb5.mono Hb4.out.size)
      have hown5 := own_below Hown4.out hb5
      have hbox5 := heap_kept hbel5 (heap_lt Hbox1.out) Hbox1.out
      have Hbel5 := Lib.hid hbel5
      clear HC r0 r1 r2 r3 r4 r5 p0 p1 p2 p3 p4 p5 q0 q1 q2 q3 q4 q5 hb5 Hown4 Hb4 Hw4 hbel hszr
      obtain ⟨p0, p1, p2, p3, p4, p5⟩ := Row6.of hbox5
      have hcell : w5.cell? ⟨gk, ok + j, none⟩ = some (.string key) := (hbel5.cell (p := ⟨gk, ok + j, none⟩) hgk).trans Hcell0.out
      have Hown5 := Lib.hid hown5
      clear hown5 hbel5
      go_wp2_with fail
      refine (HQ.out w5 Hbel5.out).mono ?_
      rintro e w6 ⟨rfl, hb6⟩
      have hbel6 := Hbel5.out.trans (hb6.mono Hbel5.out.size)
      have hown6 := own_below Hown5.out hb6
      have hsz6 := hbel6.size
      have Hbel6 := Lib.hid hbel6
      clear HQ hcell p0 p1 p2 p3 p4 p5 hb6 Hown5 hbox5
      go_wp2_with (first | (at_builtin; refine wpList_append_own _ rfl (.tmp 30) (.tmp 32) 22 rfl w1.heap.size 9 i0 (.string ⟨#[]⟩) 1 16 Tryz.underlying22 hi hz0 hz1 hz2 rfl (by decide) _ j _ rfl (hown6.alloc _) ⟨w6.heap.size, 0, none⟩ 1 1 [.string (d ++ ⟨#[58]⟩ ++ y)] rfl rfl (by exact lit_cells _ _ _) (by intro u hu; simp at hu; subst hu; rfl) (by unfold maxLen; omega) (by omega) (by simp; omega) ?_) | fail)
      intro v7 w7 hown7 hg7 _
      have hbel7 := (hbel6.alloc hsz6 _).grown hg7 (by simp; omega) (fun b hb => (hown6.lt b hb).1)
      have Hown7 := Lib.hid (show w7.ownsRow w1.heap.size 9 1 v7 (j + 1) (scells (l ++ [d ++ ⟨#[58]⟩ ++ y])) by
        have h := hown7
        rwa [show scells l ++ [Value.string (d ++ ⟨#[58]⟩ ++ y)] = scells (l ++ [d ++ ⟨#[58]⟩ ++ y]) by simp [scells]] at h)
      have Hbel7 := Lib.hid hbel7
      clear hown7 hg7 hown6 hbel6 hsz6 hbel7 
      go_wp2_with fail
      go_roundw
      case rel => exact ⟨j + 1, _, by omega, by go_num, Hl2.out.symm, Hown7.out, Hbel7.out⟩
      case measure => simp [intOf]; omega
    · obtain rfl : j = kids.length := by omega
      have Hl9 := Lib.hid (show l = (List.zipWith pairL ks (kids.map say)).map by_ by rw [hl.out, List.take_of_length_le (by omega)])
      obtain ⟨A9, c9, rfl, hn9, hc9, hr9⟩ := Rd.of_own hown
      have Hr9 := Lib.hid hr9
      have Hb9 := Lib.hid (Hb1.out.trans (hbel.mono Hb1.out.size))
      have Hn9 := Lib.hid hn9
      clear hown hbel hl hr9
      go_wp2_with fail
      go_ret
      refine ⟨A9, c9, by rw [hil]; rfl, by rw [hil]; exact Hn9.out, ?_, Hb9.out⟩
      rw [← Hl9.out, hil]
      exact Hr9.out
end Go.Proofs.YtbfkkaafkinpmaaGreatDoor.say
namespace Go.Proofs.YtbfkkaafkinpmaaGreatDoor.say
open Go.ChangeShapes Go.WideShapes Go.ChangeAt Go.RowKit tree
open rune (Tabs)
open decimal (Pow)
set_option linter.unusedVariables false

set_option maxRecDepth 1000000 in
set_option maxHeartbeats 8000000 in
theorem of_1 (f : Nat) (hIH : OfI f) (fl : Bool) (n : Int) (s : ByteArray) (ks : List ByteArray) (kids : List T) (A1 A2 : Option Addr) (c1 c2 : Nat) (w : World) (wn : (Lit.int .i64 n).wf = true) (ht : TextOk s) (hk : KidsAt w f A2 kids) (hr : Rd w A1 ks.length (scells ks)) (hko : KeysOk ks) (hk8 : True) (hkd : ∀ x ∈ kids, Shape x)
    (hc1 : ks.length ≤ c1) (hc2 : c1 ≤ maxLen) (hc3 : kids.length ≤ c2) (hc4 : c2 ≤ maxLen) (hroom : (say (.mk 1 fl n s ks kids)).length ≤ 1099511627776) (hsz : sizes kids ≤ 1099511627776) (hP : Pow w) (hT : Tabs w) :
    Calls Tryz.prog 51 #[.agg #[.int .i64 1, .bool fl, .int .i64 n, .string s, .slice A1 ks.length c1, .slice A2 kids.length c2]] w fun e w' => e = .returned (.string (by_ (say (.mk 1 fl n s ks kids)))) ∧ Below w.heap.size w w' := by
  have HB := Lib.hid (Box.new 30 w [.int .i64 1, .bool fl, .int .i64 n, .string s, .slice A1 ks.length c1, .slice A2 kids.length c2])
  have hb1 := HB.out.1
  have p0 := HB.out.cell (j := 0) rfl
  have p1 := HB.out.cell (j := 1) rfl
  have p2 := HB.out.cell (j := 2) rfl
  have p3 := HB.out.cell (j := 3) rfl
  have Hb1 := Lib.hid hb1
  rw [say1]
  clear hk hr hroom hP hT hko hkd hb1 hk8 hsz hIH wn ht HB hc1 hc2 hc3 hc4
  go_enter Tryz.func51, Tryz.ntmps51
  go_wp2_with fail
  go_ret
  exact ⟨rfl, Hb1.out⟩
set_option maxRecDepth 1000000 in
set_option maxHeartbeats 8000000 in
theorem of_2 (f : Nat) (hIH : OfI f) (fl : Bool) (n : Int) (s : ByteArray) (ks : List ByteArray) (kids : List T) (A1 A2 : Option Addr) (c1 c2 : Nat) (w : World) (wn : (Lit.int .i64 n).wf = true) (ht : TextOk s) (hk : KidsAt w f A2 kids) (hr : Rd w A1 ks.length (scells ks)) (hko : KeysOk ks) (hk8 : True) (hkd : ∀ x ∈ kids, Shape x)
    (hc1 : ks.length ≤ c1) (hc2 : c1 ≤ maxLen) (hc3 : kids.length ≤ c2) (hc4 : c2 ≤ maxLen) (hroom : (say (.mk 2 fl n s ks kids)).length ≤ 1099511627776) (hsz : sizes kids ≤ 1099511627776) (hP : Pow w) (hT : Tabs w) :
    Calls Tryz.prog 51 #[.agg #[.int .i64 2, .bool fl, .int .i64 n, .string s, .slice A1 ks.length c1, .slice A2 kids.length c2]] w fun e w' => e = .returned (.string (by_ (say (.mk 2 fl n s ks kids)))) ∧ Below w.heap.size w w' := by
  have HB := Lib.hid (Box.new 30 w [.int .i64 2, .bool fl, .int .i64 n, .string s, .slice A1 ks.length c1, .slice A2 kids.length c2])
  have hb1 := HB.out.1
  have p0 := HB.out.cell (j := 0) rfl
  have p1 := HB.out.cell (j := 1) rfl
  have p2 := HB.out.cell (j := 2) rfl
  have p3 := HB.out.cell (j := 3) rfl
  have Hb1 := Lib.hid hb1
  have HF := Lib.hid (fun w => Tryz.strconv_FormatBool fl w)
  have Hy := Lib.hid (show (⟨(Lib.formatBool fl).toArray⟩ : ByteArray) = by_ (say (.mk 2 fl n s ks kids)) by rw [say2]; cases fl; exact word_false; exact word_true)
  rw [← Hy.out]
  clear hk hr hroom hP hT hko hkd hb1 hk8 hsz hIH wn ht HB hc1 hc2 hc3 hc4 Hy
  go_enter Tryz.func51, Tryz.ntmps51
  go_wp2_with fail
  refine (HF.out _).mono ?_
  rintro e w2 ⟨rfl, rfl⟩
  clear HF
  go_wp2_with fail
  go_ret
  exact ⟨rfl, Hb1.out⟩
set_option maxRecDepth 1000000 in
set_option maxHeartbeats 8000000 in
theorem of_3 (f : Nat) (hIH : OfI f) (fl : Bool) (n : Int) (s : ByteArray) (ks : List ByteArray) (kids : List T) (A1 A2 : Option Addr) (c1 c2 : Nat) (w : World) (wn : (Lit.int .i64 n).wf = true) (ht : TextOk s) (hk : KidsAt w f A2 kids) (hr : Rd w A1 ks.length (scells ks)) (hko : KeysOk ks) (hk8 : True) (hkd : ∀ x ∈ kids, Shape x)
    (hc1 : ks.length ≤ c1) (hc2 : c1 ≤ maxLen) (hc3 : kids.length ≤ c2) (hc4 : c2 ≤ maxLen) (hroom : (say (.mk 3 fl n s ks kids)).length ≤ 1099511627776) (hsz : sizes kids ≤ 1099511627776) (hP : Pow w) (hT : Tabs w) :
    Calls Tryz.prog 51 #[.agg #[.int .i64 3, .bool fl, .int .i64 n, .string s, .slice A1 ks.length c1, .slice A2 kids.length c2]] w fun e w' => e = .returned (.string (by_ (say (.mk 3 fl n s ks kids)))) ∧ Below w.heap.size w w' := by
  have HB := Lib.hid (Box.new 30 w [.int .i64 3, .bool fl, .int .i64 n, .string s, .slice A1 ks.length c1, .slice A2 kids.length c2])
  have hb1 := HB.out.1
  have p0 := HB.out.cell (j := 0) rfl
  have p1 := HB.out.cell (j := 1) rfl
  have p2 := HB.out.cell (j := 2) rfl
  have p3 := HB.out.cell (j := 3) rfl
  have Hb1 := Lib.hid hb1
  have hI := wf_int wn
  have HD := Lib.hid (decimal.impl_any n _ hI.1 hI.2 (hP.below hb1))
  rw [say3]
  clear hk hr hroom hP hT hko hkd hb1 hk8 hsz hIH wn ht HB hc1 hc2 hc3 hc4
  go_enter Tryz.func51, Tryz.ntmps51
  go_wp2_with fail
  refine HD.out.mono ?_
  rintro e w2 ⟨rfl, hb2⟩
  have Hb2 := Lib.hid (below_link Hb1.out hb2 Hb1.out.size)
  clear HD hb2 p0 p1 p2 p3
  go_wp2_with fail
  go_ret
  exact ⟨rfl, Hb2.out⟩
set_option maxRecDepth 1000000 in
set_option maxHeartbeats 8000000 in
theorem of_4 (f : Nat) (hIH : OfI f) (fl : Bool) (n : Int) (s : ByteArray) (ks : List ByteArray) (kids : List T) (A1 A2 : Option Addr) (c1 c2 : Nat) (w : World) (wn : (Lit.int .i64 n).wf = true) (ht : TextOk s) (hk : KidsAt w f A2 kids) (hr : Rd w A1 ks.length (scells ks)) (hko : KeysOk ks) (hk8 : True) (hkd : ∀ x ∈ kids, Shape x)
    (hc1 : ks.length ≤ c1) (hc2 : c1 ≤ maxLen) (hc3 : kids.length ≤ c2) (hc4 : c2 ≤ maxLen) (hroom : (say (.mk 4 fl n s ks kids)).length ≤ 1099511627776) (hsz : sizes kids ≤ 1099511627776) (hP : Pow w) (hT : Tabs w) :
    Calls Tryz.prog 51 #[.agg #[.int .i64 4, .bool fl, .int .i64 n, .string s, .slice A1 ks.length c1, .slice A2 kids.length c2]] w fun e w' => e = .returned (.string (by_ (say (.mk 4 fl n s ks kids)))) ∧ Below w.heap.size w w' := by
  have HB := Lib.hid (Box.new 30 w [.int .i64 4, .bool fl, .int .i64 n, .string s, .slice A1 ks.length c1, .slice A2 kids.length c2])
  have hb1 := HB.out.1
  have p0 := HB.out.cell (j := 0) rfl
  have p1 := HB.out.cell (j := 1) rfl
  have p2 := HB.out.cell (j := 2) rfl
  have p3 := HB.out.cell (j := 3) rfl
  have Hb1 := Lib.hid hb1
  have HD := Lib.hid (quote.impl_quoted s _ (Nat.le_trans ht.1 (by omega)) (hT.below hb1))
  have hy : by_ (say (.mk 4 fl n s ks kids)) = quote.quotedF s := by rw [say4]; rfl
  rw [hy]
  generalize quote.quotedF s = d at HD
  clear hk hr hroom hP hT hko hkd hb1 hk8 hsz hIH wn ht HB hc1 hc2 hc3 hc4 hy
  go_enter Tryz.func51, Tryz.ntmps51
  go_wp2_with fail
  refine HD.out.mono ?_
  rintro e w2 ⟨rfl, hb2⟩
  have Hb2 := Lib.hid (below_link Hb1.out hb2 Hb1.out.size)
  clear HD hb2 p0 p1 p2 p3
  go_wp2_with fail
  go_ret
  exact ⟨rfl, Hb2.out⟩
set_option maxRecDepth 1000000 in
set_option maxHeartbeats 8000000 in
theorem of_5 (f : Nat) (hIH : OfI f) (fl : Bool) (n : Int) (s : ByteArray) (ks : List ByteArray) (kids : List T) (A1 A2 : Option Addr) (c1 c2 : Nat) (w : World) (wn : (Lit.int .i64 n).wf = true) (ht : TextOk s) (hk : KidsAt w f A2 kids) (hr : Rd w A1 ks.length (scells ks)) (hko : KeysOk ks) (hk8 : True) (hkd : ∀ x ∈ kids, Shape x)
    (hc1 : ks.length ≤ c1) (hc2 : c1 ≤ maxLen) (hc3 : kids.length ≤ c2) (hc4 : c2 ≤ maxLen) (hroom : (say (.mk 5 fl n s ks kids)).length ≤ 1099511627776) (hsz : sizes kids ≤ 1099511627776) (hP : Pow w) (hT : Tabs w) :
    Calls Tryz.prog 51 #[.agg #[.int .i64 5, .bool fl, .int .i64 n, .string s, .slice A1 ks.length c1, .slice A2 kids.length c2]] w fun e w' => e = .returned (.string (by_ (say (.mk 5 fl n s ks kids)))) ∧ Below w.heap.size w w' := by
  have HB := Lib.hid (Box.new 30 w [.int .i64 5, .bool fl, .int .i64 n, .string s, .slice A1 ks.length c1, .slice A2 kids.length c2])
  have hb1 := HB.out.1
  have p0 := HB.out.cell (j := 0) rfl
  have p1 := HB.out.cell (j := 1) rfl
  have p2 := HB.out.cell (j := 2) rfl
  have p3 := HB.out.cell (j := 3) rfl
  have Hb1 := Lib.hid hb1
  have p4 := HB.out.cell (j := 4) rfl
  have p5 := HB.out.cell (j := 5) rfl
  have hlen : (say (.mk 5 fl n s ks kids)).length = (joinC (kids.map say)).length + 2 := by rw [say5]; simp
  have HK := Lib.hid (impl_kids5 f hIH fl n s ks kids A1 A2 c1 c2 _ (hk.below hb1) (hr.below hb1) hko hk8 hkd hc1 hc2 hc3 hc4 (by omega) hsz (hP.below hb1) (hT.below hb1))
  have hy : by_ (say (.mk 5 fl n s ks kids)) = (⟨#[91]⟩ : ByteArray) ++ by_ (joinC (kids.map say)) ++ ⟨#[93]⟩ := by
    rw [say5]
    apply ByteArray.ext
    apply Array.ext'
    simp [by_]
  have hkl : kids.length ≤ 1099511627776 := Nat.le_trans (length_le_sizes kids) hsz
  have hil : (kids.map say).length = kids.length := by rw [List.length_map]
  have HJ := Lib.hid (fun A c w' h1 h2 => join_any (kids.map say) A c w' h1 h2 (by omega) (by omega))
  have hdz : (by_ (joinC (kids.map say))).size ≤ 1099511627776 := by show (joinC (kids.map say)).toArray.size ≤ _; rw [List.size_toArray]; omega
  rw [hy]
  unfold KidsOut at HK
  generalize by_ (joinC (kids.map say)) = d at HJ hdz
  generalize (kids.map say).map by_ = L2 at HK HJ
  generalize (kids.map say).length = N at HK HJ
  clear hk hr hroom hP hT hko hkd hb1 hk8 hsz hIH wn ht HB hc1 hc2 hc3 hc4 hlen hy hkl hil
  go_enter Tryz.func51, Tryz.ntmps51
  go_wp2_with fail
  refine HK.out.mono ?_
  rintro e w2 ⟨A9, c9, rfl, hn9, hr9, hb2⟩
  have HJ2 := Lib.hid (HJ.out A9 c9 w2 hn9 hr9)
  have Hb2 := Lib.hid (below_link Hb1.out hb2 Hb1.out.size)
  clear HK HJ hb2 hr9 p0 p1 p2 p3 p4 p5
  go_wp2_with fail
  refine HJ2.out.mono ?_
  rintro e w3 ⟨rfl, hb3⟩
  have Hb3 := Lib.hid (below_link Hb2.out hb3 Hb2.out.size)
  clear HJ2 hb3
  go_wp2_with fail
  go_ret
  exact ⟨rfl, Hb3.out⟩
set_option maxRecDepth 1000000 in
set_option maxHeartbeats 8000000 in
theorem of_6 (f : Nat) (hIH : OfI f) (fl : Bool) (n : Int) (s : ByteArray) (ks : List ByteArray) (kids : List T) (A1 A2 : Option Addr) (c1 c2 : Nat) (w : World) (wn : (Lit.int .i64 n).wf = true) (ht : TextOk s) (hk : KidsAt w f A2 kids) (hr : Rd w A1 ks.length (scells ks)) (hko : KeysOk ks) (hk8 : ks.length = kids.length) (hkd : ∀ x ∈ kids, Shape x)
    (hc1 : ks.length ≤ c1) (hc2 : c1 ≤ maxLen) (hc3 : kids.length ≤ c2) (hc4 : c2 ≤ maxLen) (hroom : (say (.mk 6 fl n s ks kids)).length ≤ 1099511627776) (hsz : sizes kids ≤ 1099511627776) (hP : Pow w) (hT : Tabs w) :
    Calls Tryz.prog 51 #[.agg #[.int .i64 6, .bool fl, .int .i64 n, .string s, .slice A1 ks.length c1, .slice A2 kids.length c2]] w fun e w' => e = .returned (.string (by_ (say (.mk 6 fl n s ks kids)))) ∧ Below w.heap.size w w' := by
  have HB := Lib.hid (Box.new 30 w [.int .i64 6, .bool fl, .int .i64 n, .string s, .slice A1 ks.length c1, .slice A2 kids.length c2])
  have hb1 := HB.out.1
  have p0 := HB.out.cell (j := 0) rfl
  have p1 := HB.out.cell (j := 1) rfl
  have p2 := HB.out.cell (j := 2) rfl
  have p3 := HB.out.cell (j := 3) rfl
  have Hb1 := Lib.hid hb1
  have p4 := HB.out.cell (j := 4) rfl
  have p5 := HB.out.cell (j := 5) rfl
  have hlen : (say (.mk 6 fl n s ks kids)).length = (joinC (List.zipWith pairL ks (kids.map say))).length + 2 := by rw [say6]; simp
  have HK := Lib.hid (impl_kids6 f hIH fl n s ks kids A1 A2 c1 c2 _ (hk.below hb1) (hr.below hb1) hko hk8 hkd hc1 hc2 hc3 hc4 (by omega) hsz (hP.below hb1) (hT.below hb1))
  have hy : by_ (say (.mk 6 fl n s ks kids)) = (⟨#[123]⟩ : ByteArray) ++ by_ (joinC (List.zipWith pairL ks (kids.map say))) ++ ⟨#[125]⟩ := by
    rw [say6]
    apply ByteArray.ext
    apply Array.ext'
    simp [by_]
  have hkl : kids.length ≤ 1099511627776 := Nat.le_trans (length_le_sizes kids) hsz
  have hil : (List.zipWith pairL ks (kids.map say)).length = kids.length := by rw [List.length_zipWith, List.length_map, hk8, Nat.min_self]
  have HJ := Lib.hid (fun A c w' h1 h2 => join_any (List.zipWith pairL ks (kids.map say)) A c w' h1 h2 (by omega) (by omega))
  have hdz : (by_ (joinC (List.zipWith pairL ks (kids.map say)))).size ≤ 1099511627776 := by show (joinC (List.zipWith pairL ks (kids.map say))).toArray.size ≤ _; rw [List.size_toArray]; omega
  rw [hy]
  unfold KidsOut at HK
  generalize by_ (joinC (List.zipWith pairL ks (kids.map say))) = d at HJ hdz
  generalize (List.zipWith pairL ks (kids.map say)).map by_ = L2 at HK HJ
  generalize (List.zipWith pairL ks (kids.map say)).length = N at HK HJ
  clear hk hr hroom hP hT hko hkd hb1 hk8 hsz hIH wn ht HB hc1 hc2 hc3 hc4 hlen hy hkl hil
  go_enter Tryz.func51, Tryz.ntmps51
  go_wp2_with fail
  refine HK.out.mono ?_
  rintro e w2 ⟨A9, c9, rfl, hn9, hr9, hb2⟩
  have HJ2 := Lib.hid (HJ.out A9 c9 w2 hn9 hr9)
  have Hb2 := Lib.hid (below_link Hb1.out hb2 Hb1.out.size)
  clear HK HJ hb2 hr9 p0 p1 p2 p3 p4 p5
  go_wp2_with fail
  refine HJ2.out.mono ?_
  rintro e w3 ⟨rfl, hb3⟩
  have Hb3 := Lib.hid (below_link Hb2.out hb3 Hb2.out.size)
  clear HJ2 hb3
  go_wp2_with fail
  go_ret
  exact ⟨rfl, Hb3.out⟩
theorem of_step (f : Nat) (IH : OfI f) : OfI (f + 1) := by
  intro t vs w h hsh hroom hsz hP hT
  obtain ⟨k, fl, n, s, ks, kids⟩ := t
  obtain ⟨A1, c1, A2, c2, rfl, wk, wn, hs, hc1, hc2, hr, hks, hc3, hc4, f', hf, hk⟩ := open_tree h
  obtain rfl : f = f' := by omega
  rw [Shape, shapes_iff] at hsh
  obtain ⟨⟨hk1, hk6, _, _, _, _, _, hk8⟩, ht, hko, hkd⟩ := hsh
  have hsz2 : sizes kids ≤ 1099511627776 := by rw [size] at hsz; omega
  obtain rfl | rfl | rfl | rfl | rfl | rfl : k = 1 ∨ k = 2 ∨ k = 3 ∨ k = 4 ∨ k = 5 ∨ k = 6 := by omega
  · exact of_1 f IH fl n s ks kids A1 A2 c1 c2 w wn ht hk hr hko trivial hkd hc1 hc2 hc3 hc4 hroom hsz2 hP hT
  · exact of_2 f IH fl n s ks kids A1 A2 c1 c2 w wn ht hk hr hko trivial hkd hc1 hc2 hc3 hc4 hroom hsz2 hP hT
  · exact of_3 f IH fl n s ks kids A1 A2 c1 c2 w wn ht hk hr hko trivial hkd hc1 hc2 hc3 hc4 hroom hsz2 hP hT
  · exact of_4 f IH fl n s ks kids A1 A2 c1 c2 w wn ht hk hr hko trivial hkd hc1 hc2 hc3 hc4 hroom hsz2 hP hT
  · exact of_5 f IH fl n s ks kids A1 A2 c1 c2 w wn ht hk hr hko trivial hkd hc1 hc2 hc3 hc4 hroom hsz2 hP hT
  · exact of_6 f IH fl n s ks kids A1 A2 c1 c2 w wn ht hk hr hko (hk8 rfl) hkd hc1 hc2 hc3 hc4 hroom hsz2 hP hT
theorem impl_of : ∀ (f : Nat), OfI f
  | 0 => by
    intro t vs w h
    obtain ⟨k, fl, n, s, ks, kids⟩ := t
    obtain ⟨_, _, _, _, _, _, _, _, _, _, _, _, _, _, f', hf, _⟩ := open_tree h
    omega
  | f + 1 => of_step f (impl_of f)
end Go.Proofs.YtbfkkaafkinpmaaGreatDoor.say
