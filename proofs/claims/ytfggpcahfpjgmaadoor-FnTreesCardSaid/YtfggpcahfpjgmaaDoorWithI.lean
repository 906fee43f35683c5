/- impl.withKid. -/
import Derived.Test.YtfggpcahfpjgmaaDoorGWi
import Derived.Test.YtfggpcahfpjgmaaDoorBsI
import Derived.Deep.CutRange
namespace Go.Proofs.YtfggpcahfpjgmaaDoor.tree
open Go.ChangeShapes Go.WideShapes Go.ChangeAt Go.RowKit
set_option linter.unusedVariables false

theorem own_lower {w : World} {B B' : Nat} {e : TypeId} {size n : Nat} {v : Value} {xs : List Value} (h : w.ownsRow B e size v n xs) (hB : B' ≤ B) : w.ownsRow B' e size v n xs :=
  ⟨h.1, h.2.imp id (fun ⟨g, cap, cur, h1, h2, h3⟩ => ⟨g, cap, cur, h1, Nat.le_trans hB h2, h3⟩)⟩
theorem own_blockw {w w' : World} {B : Nat} {e : TypeId} {size n : Nat} {v : Value} {xs : List Value} (h : w.ownsRow B e size v n xs) (hk : ∀ g, B ≤ g → w'.heap[g]? = w.heap[g]?) : w'.ownsRow B e size v n xs :=
  ⟨h.1, h.2.imp id (fun ⟨g, cap, cur, h1, h2, h3, h4⟩ => ⟨g, cap, cur, h1, h2, (hk g h2).trans h3, h4⟩)⟩
/-- A slice nowhere, or in a block. -/
def Flat (w : World) (A : Option Addr) (c : Nat) : Prop := (A = none ∧ c = 0) ∨ ∃ g o, A = some ⟨g, o, none⟩ ∧ g < w.heap.size
theorem RdN.take {w : World} {size : Nat} {A : Option Addr} {m : Nat} {xs : List Value} (h : RdN w size A m xs) (i : Nat) (hi : i ≤ m) : RdN w size A i (xs.take (i * size)) := by
  have hle : i * size ≤ m * size := Nat.mul_le_mul_right _ hi
  refine ⟨by rw [List.length_take, h.1]; omega, fun u hu => h.2.1 u (List.mem_of_mem_take hu), fun h0 => ?_⟩
  obtain ⟨g, o, rfl, hg, hc⟩ := h.2.2 (by omega)
  refine ⟨g, o, rfl, hg, fun j u hu => hc j u ?_⟩
  have hj := (List.getElem?_eq_some_iff.1 hu).1
  rw [List.length_take] at hj
  rw [← hu, List.getElem?_take, if_pos (by omega)]
theorem RdN.drop {w : World} {size : Nat} {A X : Option Addr} {m : Nat} {xs : List Value} (h : RdN w size A m xs) (a : Nat) (ha : a ≤ m) (hX : a < m → ∀ g o, A = some ⟨g, o, none⟩ → X = some ⟨g, o + a * size, none⟩) : RdN w size X (m - a) (xs.drop (a * size)) := by
  refine ⟨by rw [List.length_drop, h.1, Nat.sub_mul], fun u hu => h.2.1 u (List.mem_of_mem_drop hu), fun h0 => ?_⟩
  obtain ⟨g, o, rfl, hg, hc⟩ := h.2.2 (by omega)
  refine ⟨g, o + a * size, hX (by omega) g o rfl, hg, fun j u hu => ?_⟩
  rw [Nat.add_assoc]
  refine hc (a * size + j) u ?_
  rw [← hu, List.getElem?_drop]
theorem rdn_of_rd {w : World} {A : Option Addr} {ks : List ByteArray} {m : Nat} (h : Rd w A m (scells ks)) (hm : ks.length = m) : RdN w 1 A m (scells ks) := by
  refine ⟨by simp [scells, hm], strs_one ks, fun h0 => ?_⟩
  obtain ⟨g, o, rfl, hg, hc⟩ := h.2 h0
  refine ⟨g, o, rfl, hg, fun j u hu => hc j ?_ u hu⟩
  have := (List.getElem?_eq_some_iff.1 hu).1
  simpa [scells, hm] using this
theorem scells_take (ks : List ByteArray) (i : Nat) : (scells ks).take (i * 1) = scells (ks.take i) := by simp [scells]
theorem scells_drop (ks : List ByteArray) (i : Nat) : (scells ks).drop (i * 1) = scells (ks.drop i) := by simp [scells]
def WithOut (k : Int) (fl : Bool) (n : Int) (s key : ByteArray) (ks : List ByteArray) (xs us : List Value) (w : World) (e : Ending) (w' : World) : Prop :=
  ∃ (i N : Nat) (Av : Option Addr) (cv : Nat) (Bv : Option Addr) (dv : Nat), i ≤ ks.length ∧ (∀ k ∈ ks.take i, less k key = true) ∧ (∀ k ∈ ks.drop i, less k key = false) ∧ N = i + (ks.length - behind ks key i + 1) ∧
    e = .returned (.agg #[.int .i64 k, .bool fl, .int .i64 n, .string s, .slice Av N cv, .slice Bv N dv]) ∧
    w'.ownsRow w.heap.size 9 1 (.slice Av N cv) N (scells (ks.take i) ++ scells [key] ++ scells (ks.drop (behind ks key i))) ∧
    w'.ownsRow w.heap.size 27 6 (.slice Bv N dv) N (xs.take (i * 6) ++ us ++ xs.drop (behind ks key i * 6)) ∧ Below w.heap.size w w'

set_option maxRecDepth 1000000 in
set_option maxHeartbeats 8000000 in
theorem impl_with (k : Int) (fl : Bool) (n : Int) (s : ByteArray) (ks : List ByteArray) (m : Nat) (A1 A2 : Option Addr) (c1 c2 : Nat) (u0 u1 u2 u3 u4 u5 : Value) (xs : List Value) (key : ByteArray) (w : World)
    (hm0 : ks.length = m) (hc1 : m ≤ c1) (hm1 : c1 ≤ maxLen) (hr : Rd w A1 m (scells ks)) (hp : ks.Pairwise (fun a b => less a b = true)) (hn : m ≤ 1048575) (hc2 : m ≤ c2) (hm2 : c2 ≤ maxLen)
    (hA1 : Flat w A1 c1) (hA2 : Flat w A2 c2) (hx : RdN w 6 A2 m xs) (hu : ∀ u ∈ [u0, u1, u2, u3, u4, u5], u.oneCell' = true) :
    Calls Tryd.prog 20 #[.agg #[.int .i64 k, .bool fl, .int .i64 n, .string s, .slice A1 m c1, .slice A2 m c2], .string key, .agg #[u0, u1, u2, u3, u4, u5]] w (WithOut k fl n s key ks xs [u0, u1, u2, u3, u4, u5] w) := by
  obtain ⟨w1, hw1⟩ : ∃ w1, w1 = ((w.alloc (.cells #[.int .i64 k, .bool fl, .int .i64 n, .string s, .slice A1 m c1, .slice A2 m c2] 27)).alloc (.cells #[u0, u1, u2, u3, u4, u5] 27)).alloc (.cells #[.int .i64 0, .bool false, .int .i64 0, .string ⟨#[]⟩, .slice none 0 0, .slice none 0 0] 27) := ⟨_, rfl⟩
  have hb1 : Below w.heap.size w w1 := by rw [hw1]; exact (((Below.refl _ _).alloc (Nat.le_refl _) _).alloc (by simp) _).alloc (by simp; omega) _
  have hrow : w1.heap[w.heap.size]? = some (.cells #[.int .i64 k, .bool fl, .int .i64 n, .string s, .slice A1 m c1, .slice A2 m c2] 27 (0, 0)) := by
    rw [hw1, Below.heap_alloc _ _ _ (by simp; omega), Below.heap_alloc _ _ _ (by simp)]
    exact heap_alloc_new w _
  have hkid : w1.heap[w.heap.size + 1]? = some (.cells #[u0, u1, u2, u3, u4, u5] 27 (0, 0)) := by
    rw [hw1, Below.heap_alloc _ _ _ (by simp)]
    have h := heap_alloc_new (w.alloc (.cells #[.int .i64 k, .bool fl, .int .i64 n, .string s, .slice A1 m c1, .slice A2 m c2] 27)) (.cells #[u0, u1, u2, u3, u4, u5] 27)
    simpa using h
  have hres : w1.heap[w.heap.size + 1 + 1]? = some (.cells #[.int .i64 0, .bool false, .int .i64 0, .string ⟨#[]⟩, .slice none 0 0, .slice none 0 0] 27 (0, 0)) := by
    rw [hw1]
    have h := heap_alloc_new ((w.alloc (.cells #[.int .i64 k, .bool fl, .int .i64 n, .string s, .slice A1 m c1, .slice A2 m c2] 27)).alloc (.cells #[u0, u1, u2, u3, u4, u5] 27)) (.cells #[.int .i64 0, .bool false, .int .i64 0, .string ⟨#[]⟩, .slice none 0 0, .slice none 0 0] 27)
    simpa using h
  have p4 : w1.cell? ⟨w.heap.size, 4, none⟩ = some (.slice A1 m c1) := by rw [cell_of_row w1 _ 4 _ _ _ hrow]; rfl
  rw [hw1] at p4
  have HB := Lib.hid (show Calls Tryd.prog 34 #[.slice A1 m c1, .string key] w1 _ from by
    have h := bsearch A1 c1 ks key w1 (by omega) hm1 (by rw [hm0]; exact hr.below hb1) hp
    rw [hm0] at h
    exact h)
  have Hr := Lib.hid hr
  have Hw1 := Lib.hid hw1
  have Hb1 := Lib.hid hb1
  have Hrow := Lib.hid hrow
  have Hkid := Lib.hid hkid
  have Hres := Lib.hid hres
  have HA1 := Lib.hid hA1
  have HA2 := Lib.hid hA2
  have Hx := Lib.hid hx
  have Hu := Lib.hid hu
  have Hm0 := Lib.hid hm0
  unfold maxLen at hm1 hm2
  clear hr hp hw1 hb1 hrow hkid hres hA1 hA2 hx hu hm0
  go_enter Tryd.func20, Tryd.ntmps20
  go_wp2_with fail
  rw [← Hw1.out]
  refine HB.out.mono ?_
  rintro e w2 ⟨i, hi, hlo, hhi, rfl, q, hw2⟩
  have hb2 : Below w1.heap.size w1 w2 := by rw [hw2]; exact below_drewN (Below.refl _ _) q
  have Hrow2 := Lib.hid (heap_kept hb2 (heap_lt Hrow.out) Hrow.out)
  have Hkid2 := Lib.hid (heap_kept hb2 (heap_lt Hkid.out) Hkid.out)
  have Hres2 := Lib.hid (heap_kept hb2 (heap_lt Hres.out) Hres.out)
  have Hb2 := Lib.hid (below_link Hb1.out hb2 Hb1.out.size)
  have Hcut := Lib.hid (show (∀ k ∈ ks.take i, less k key = true) ∧ (∀ k ∈ ks.drop i, less k key = false) from ⟨hlo, hhi⟩)
  have hbe : behind ks key i = if decide (ks[i]? = some key) = true then i + 1 else i := by unfold behind; by_cases h : ks[i]? = some key <;> simp [h]
  have hd0 : decide (ks[i]? = some key) = true → i < m := fun h => by
    have h2 := (List.getElem?_eq_some_iff.1 (of_decide_eq_true h)).1
    have := Hm0.out
    omega
  obtain ⟨a, ha⟩ : ∃ a, behind ks key i = a := ⟨_, rfl⟩
  rw [ha] at hbe
  have Ha := Lib.hid ha
  generalize decide (ks[i]? = some key) = b at hbe hd0
  have ham : a ≤ m ∧ i ≤ a := by cases b <;> simp at hbe hd0 <;> omega
  have Hbe := Lib.hid hbe
  clear hw2 hb2 hlo hhi Hrow Hkid Hres Hb1 Hw1 HB p4 ha hbe hd0
  go_upto_if 18 with fail
  go_cut [9] from 19 to 48 (fun s9 wx => s9 = .int .i64 (a : Nat) ∧ w2 = wx)
  case first =>
    cases b
    all_goals
      go_wp2_with fail
      go_meet
      exact ⟨by rw [Hbe.out]; (first | rfl | go_num), rfl⟩
  case rest =>
    obtain ⟨hs9, hwx⟩ := hcut
    subst hwx
    subst hs9
    have HRk := Lib.hid (rdn_of_rd (Hr.out.below Hb2.out) Hm0.out)
    have Him := Lib.hid hi
    have Ham := Lib.hid ham
    have hg2 := heap_lt Hrow2.out
    have Hlt2 := Lib.hid hg2
    clear Hr
    try go_upto_region 5 with fail
    go_cut [] from 21 to 34 (fun wx => Hid (∃ (w3 : World) (Av : Option Addr) (cv : Nat), Below w2.heap.size w2 w3 ∧ w3.ownsRow (w2.heap.size + 2) 9 1 (.slice Av (i + (m - a + 1)) cv) (i + (m - a + 1)) (scells (ks.take i) ++ scells [key] ++ scells (ks.drop a)) ∧ wx = w3.setCell ⟨w.heap.size, 4, none⟩ (.slice Av (i + (m - a + 1)) cv)))
    case first =>
      have q4 : w2.cell? ⟨w.heap.size, 4, none⟩ = some (.slice A1 m c1) := by rw [cell_of_row w2 _ 4 _ _ _ Hrow2.out]; rfl
      have hf2 := frozen_of_row w2 _ 4 _ _ Hrow2.out
      have e1 : (0 : Int) ≤ (i : Int) := by omega
      have e2 : (i : Int) ≤ (c1 : Int) := by omega
      have e3 : (0 : Int) ≤ (a : Int) := by omega
      have e4 : (a : Int) ≤ (m : Int) := by omega
      have e5 : (m : Int) ≤ (c1 : Int) := by omega
      have HT := Lib.hid (HRk.out.take i hi)
      rw [scells_take] at HT
      rcases HA1.out with ⟨rfl, rfl⟩ | ⟨g, o, rfl, hg⟩
      · have hm00 : m = 0 := by omega
        have ha0 : a = 0 := by omega
        have hi0 : i = 0 := by omega
        subst hm00
        subst ha0
        subst hi0
        have HD := Lib.hid (HRk.out.drop (X := none) 0 (by omega) (fun h => absurd h (by omega)))
        rw [scells_drop] at HD
        have HC := Lib.hid (cat_keys2 none none 0 0 0 0 (ks.take 0) (ks.drop 0) key w2 (by omega) (by simp [maxLen]) (by omega) (by simp [maxLen]) (by omega) HT.out HD.out)
        clear HT HD e1 e2 e3 e4 e5
        go_wp2_with fail
        go_region_law (first | (go_simp; go_at_call 35; refine HC.out.mono ?_; rintro e w3 ⟨v, rfl, hown3, hb3⟩; obtain ⟨Av, cv, rfl⟩ := own_is_slice hown3; have hrow3 := heap_kept hb3 (heap_lt Hrow2.out) Hrow2.out; have r4 := (Row6.of hrow3).2.2.2.2.1; have f4 := frozen_of_row w3 _ 4 _ _ hrow3))
        all_goals
          have Hown3 := Lib.hid hown3
          have Hb3 := Lib.hid hb3
          clear hown3 hb3
          go_wp2_with fail
          go_meet
          exact Lib.hid ⟨w3, Av, cv, Hb3.out, Hown3.out, rfl⟩
      · have HD := Lib.hid (HRk.out.drop (X := if c1 = a then some ⟨g, o, none⟩ else some ⟨g, o + a, none⟩) a ham.1 (fun h g' o' e => by injection e with e; injection e with e1 e2 e3; subst e1; subst e2; rw [if_neg (by omega), Nat.mul_one]))
        rw [scells_drop] at HD
        have HC := Lib.hid (cat_keys2 (some ⟨g, o, none⟩) (if c1 = a then some ⟨g, o, none⟩ else some ⟨g, o + a, none⟩) i c1 (m - a) (c1 - a) (ks.take i) (ks.drop a) key w2 (by omega) (by unfold maxLen; omega) (by omega) (by unfold maxLen; omega) (by omega) HT.out HD.out)
        clear HT HD
        go_wp2_with fail
        go_region_law (first | (go_simp; go_at_call 35; refine HC.out.mono ?_; rintro e w3 ⟨v, rfl, hown3, hb3⟩; obtain ⟨Av, cv, rfl⟩ := own_is_slice hown3; have hrow3 := heap_kept hb3 (heap_lt Hrow2.out) Hrow2.out; have r4 := (Row6.of hrow3).2.2.2.2.1; have f4 := frozen_of_row w3 _ 4 _ _ hrow3))
        all_goals
          have Hown3 := Lib.hid hown3
          have Hb3 := Lib.hid hb3
          clear hown3 hb3
          clear HC
          generalize (if c1 = a then (some ⟨g, o, none⟩ : Option Addr) else some ⟨g, o + a, none⟩) = X9
          go_wp2_with fail
          go_meet
          exact Lib.hid ⟨w3, Av, cv, Hb3.out, Hown3.out, rfl⟩
    case rest =>
      obtain ⟨w4, hw4⟩ : ∃ w4, w4 = wc := ⟨_, rfl⟩
      subst hw4
      obtain ⟨w3, Av, cv, hb3, hown3, hwx⟩ := hcut.out
      have hrow4 : w4.heap[w.heap.size]? = some (.cells #[.int .i64 k, .bool fl, .int .i64 n, .string s, .slice Av (i + (m - a + 1)) cv, .slice A2 m c2] 27 (0, 0)) := by
        rw [hwx]
        exact heap_setCell_same _ _ _ _ _ _ (heap_kept hb3 (heap_lt Hrow2.out) Hrow2.out)
      have hkid4 : w4.heap[w.heap.size + 1]? = some (.cells #[u0, u1, u2, u3, u4, u5] 27 (0, 0)) := by
        rw [hwx]
        exact (Below.heap_setCell _ _ _ _ (by show w.heap.size + 1 ≠ w.heap.size; omega)).trans (heap_kept hb3 (heap_lt Hkid2.out) Hkid2.out)
      have hres4 : w4.heap[w.heap.size + 1 + 1]? = some (.cells #[.int .i64 0, .bool false, .int .i64 0, .string ⟨#[]⟩, .slice none 0 0, .slice none 0 0] 27 (0, 0)) := by
        rw [hwx]
        exact (Below.heap_setCell _ _ _ _ (by show w.heap.size + 1 + 1 ≠ w.heap.size; omega)).trans (heap_kept hb3 (heap_lt Hres2.out) Hres2.out)
      have hb4 : Below w.heap.size w w4 := by
        rw [hwx]
        exact (below_link Hb2.out hb3 Hb2.out.size).setCell (by show w.heap.size ≤ w.heap.size; omega) _
      have hl2 := heap_lt Hres2.out
      have hown4 : w4.ownsRow (w2.heap.size + 2) 9 1 (.slice Av (i + (m - a + 1)) cv) (i + (m - a + 1)) (scells (ks.take i) ++ scells [key] ++ scells (ks.drop a)) := own_blockw hown3 (fun g hg => by
        rw [hwx]
        exact Below.heap_setCell _ _ _ _ (by show g ≠ w.heap.size; omega))
      have Hrow4 := Lib.hid hrow4
      have Hkid4 := Lib.hid hkid4
      have Hres4 := Lib.hid hres4
      have Hb4 := Lib.hid hb4
      have Hown4 := Lib.hid hown4
      have Hl2 := Lib.hid hl2
      have Hl4 := Lib.hid (heap_lt hkid4)
      have HRx := Lib.hid (Hx.out.below hb4)
      clear hcut hwx hb3 hown3 hrow4 hkid4 hres4 hb4 hown4 hl2 hg2
      try go_upto_region 6 with fail
      go_cut [] from 34 to 47 (fun wx => Hid (∃ (w5 : World) (Bv : Option Addr) (dv : Nat), Below w4.heap.size w4 w5 ∧ w5.ownsRow (w4.heap.size + 2) 27 6 (.slice Bv (i + (m - a + 1)) dv) (i + (m - a + 1)) (xs.take (i * 6) ++ [u0, u1, u2, u3, u4, u5] ++ xs.drop (a * 6)) ∧ wx = w5.setCell ⟨w.heap.size, 5, none⟩ (.slice Bv (i + (m - a + 1)) dv)))
      case first =>
        obtain ⟨q0, q1, q2, q3, q4, q5⟩ := Row6.of Hrow4.out
        obtain ⟨k0, k1, k2, k3, k4, k5⟩ := Row6.of Hkid4.out
        have hf4 := frozen_of_row w4 _ 5 _ _ Hrow4.out
        have hg4 := heap_lt Hrow4.out
        have hg4' := heap_lt Hkid4.out
        have e1 : (0 : Int) ≤ (i : Int) := by omega
        have e2 : (i : Int) ≤ (c2 : Int) := by omega
        have e3 : (0 : Int) ≤ (a : Int) := by omega
        have e4 : (a : Int) ≤ (m : Int) := by omega
        have e5 : (m : Int) ≤ (c2 : Int) := by omega
        have HT := Lib.hid (HRx.out.take i hi)
        rcases HA2.out with ⟨rfl, rfl⟩ | ⟨g, o, rfl, hg⟩
        · have hm00 : m = 0 := by omega
          have ha0 : a = 0 := by omega
          have hi0 : i = 0 := by omega
          subst hm00
          subst ha0
          subst hi0
          have HD := Lib.hid (HRx.out.drop (X := none) 0 (by omega) (fun h => absurd h (by omega)))
          have HC := Lib.hid (cat_trees2 none none 0 0 0 0 (xs.take (0 * 6)) (xs.drop (0 * 6)) [u0, u1, u2, u3, u4, u5] rfl Hu.out w4 (by omega) (by simp [maxLen]) (by omega) (by simp [maxLen]) (by omega) HT.out HD.out)
          clear HT HD e1 e2 e3 e4 e5
          go_wp2_with fail
          go_region_law (first | (go_simp; go_at_call 36; refine HC.out.mono ?_; rintro e w5 ⟨v, rfl, hown5, hb5⟩; obtain ⟨Bv, dv, rfl⟩ := own_is_slice hown5; have hrow5 := heap_kept hb5 (heap_lt Hrow4.out) Hrow4.out; have r5 := (Row6.of hrow5).2.2.2.2.2; have f5 := frozen_of_row w5 _ 5 _ _ hrow5))
          all_goals
            have Hown5 := Lib.hid hown5
            have Hb5 := Lib.hid hb5
            clear hown5 hb5
            go_wp2_with fail
            go_meet
            exact Lib.hid ⟨w5, Bv, dv, Hb5.out, Hown5.out, rfl⟩
        · have HD := Lib.hid (HRx.out.drop (X := if c2 = a then some ⟨g, o, none⟩ else some ⟨g, o + a * 6, none⟩) a ham.1 (fun h g' o' e => by injection e with e; injection e with e1 e2 e3; subst e1; subst e2; rw [if_neg (by omega)]))
          have HC := Lib.hid (cat_trees2 (some ⟨g, o, none⟩) (if c2 = a then some ⟨g, o, none⟩ else some ⟨g, o + a * 6, none⟩) i c2 (m - a) (c2 - a) (xs.take (i * 6)) (xs.drop (a * 6)) [u0, u1, u2, u3, u4, u5] rfl Hu.out w4 (by omega) (by unfold maxLen; omega) (by omega) (by unfold maxLen; omega) (by omega) HT.out HD.out)
          clear HT HD
          go_wp2_with fail
          go_region_law (first | (go_simp; go_at_call 36; refine HC.out.mono ?_; rintro e w5 ⟨v, rfl, hown5, hb5⟩; obtain ⟨Bv, dv, rfl⟩ := own_is_slice hown5; have hrow5 := heap_kept hb5 (heap_lt Hrow4.out) Hrow4.out; have r5 := (Row6.of hrow5).2.2.2.2.2; have f5 := frozen_of_row w5 _ 5 _ _ hrow5))
          all_goals
            have Hown5 := Lib.hid hown5
            have Hb5 := Lib.hid hb5
            clear hown5 hb5
            clear HC
            generalize (if c2 = a then (some ⟨g, o, none⟩ : Option Addr) else some ⟨g, o + a * 6, none⟩) = X9
            go_wp2_with fail
            go_meet
            exact Lib.hid ⟨w5, Bv, dv, Hb5.out, Hown5.out, rfl⟩
      case rest =>
        obtain ⟨w6, hw6⟩ : ∃ w6, w6 = wc := ⟨_, rfl⟩
        subst hw6
        obtain ⟨w5, Bv, dv, hb5, hown5, hwx⟩ := hcut.out
        have hrow6 : w6.heap[w.heap.size]? = some (.cells #[.int .i64 k, .bool fl, .int .i64 n, .string s, .slice Av (i + (m - a + 1)) cv, .slice Bv (i + (m - a + 1)) dv] 27 (0, 0)) := by
          rw [hwx]
          exact heap_setCell_same _ _ _ _ _ _ (heap_kept hb5 (heap_lt Hrow4.out) Hrow4.out)
        have hres6 : w6.heap[w.heap.size + 1 + 1]? = some (.cells #[.int .i64 0, .bool false, .int .i64 0, .string ⟨#[]⟩, .slice none 0 0, .slice none 0 0] 27 (0, 0)) := by
          rw [hwx]
          exact (Below.heap_setCell _ _ _ _ (by show w.heap.size + 1 + 1 ≠ w.heap.size; omega)).trans (heap_kept hb5 (heap_lt Hres4.out) Hres4.out)
        have Hb6 := Lib.hid (show Below w.heap.size w w6 by
          rw [hwx]
          exact (below_link Hb4.out hb5 Hb4.out.size).setCell (by show w.heap.size ≤ w.heap.size; omega) _)
        have hlr := heap_lt Hres2.out
        have hlr4 := heap_lt Hres4.out
        have Hk6 := Lib.hid (show w6.ownsRow (w2.heap.size + 2) 9 1 (.slice Av (i + (m - a + 1)) cv) (i + (m - a + 1)) (scells (ks.take i) ++ scells [key] ++ scells (ks.drop a)) from own_blockw (own_below' Hown4.out hb5) (fun g hg => by
          rw [hwx]
          exact Below.heap_setCell _ _ _ _ (by show g ≠ w.heap.size; omega)))
        have Ht6 := Lib.hid (show w6.ownsRow (w4.heap.size + 2) 27 6 (.slice Bv (i + (m - a + 1)) dv) (i + (m - a + 1)) (xs.take (i * 6) ++ [u0, u1, u2, u3, u4, u5] ++ xs.drop (a * 6)) from own_blockw hown5 (fun g hg => by
          rw [hwx]
          exact Below.heap_setCell _ _ _ _ (by show g ≠ w.heap.size; omega)))
        have Hres6 := Lib.hid hres6
        have Hlr := Lib.hid hlr
        have Hlr4 := Lib.hid hlr4
        clear hcut hwx hb5 hown5 hlr hlr4
        go_wp2_with (first | (refine wpList_load_row rfl 27 _ rfl w.heap.size rfl 27 #[.int .i64 k, .bool fl, .int .i64 n, .string s, .slice Av (i + (m - a + 1)) cv, .slice Bv (i + (m - a + 1)) dv] (0, 0) _ hrow6 Tryd.underlying27 rfl tree_size' ?_) | (refine wpList_store_row rfl 27 _ _ rfl (w.heap.size + 1 + 1) #[.int .i64 k, .bool fl, .int .i64 n, .string s, .slice Av (i + (m - a + 1)) cv, .slice Bv (i + (m - a + 1)) dv] rfl rfl 27 _ hres6 tree_size' rfl (by simp [Value.oneCell']) ?_) | fail)
        refine bodyPost_ret (v := .agg #[.int .i64 k, .bool fl, .int .i64 n, .string s, .slice Av (i + (m - a + 1)) cv, .slice Bv (i + (m - a + 1)) dv]) ?_ rfl ⟨i, i + (m - a + 1), Av, cv, Bv, dv, by rw [Hm0.out]; exact Him.out, Hcut.out.1, Hcut.out.2, by rw [Hm0.out, Ha.out], rfl, ?_, ?_, ?_⟩
        · exact results_cell_row rfl _ _ (w.heap.size + 1 + 1) _ _ (0, 0) _ rfl (setRow_at Hres6.out) Tryd.underlying27 rfl tree_size'
        · rw [Ha.out]
          refine own_lower (own_blockw Hk6.out (fun g hg => ?_)) (B' := w.heap.size) (by have := Hlr.out; omega)
          have h4 := Hlr.out
          simp only [World.setRow, Array.getElem?_modify]
          rw [if_neg (by omega)]
        · rw [Ha.out]
          refine own_lower (own_blockw Ht6.out (fun g hg => ?_)) (B' := w.heap.size) (by have := Hlr4.out; omega)
          have h4 := Hlr4.out
          simp only [World.setRow, Array.getElem?_modify]
          rw [if_neg (by omega)]
        · exact setRow_below Hb6.out (by omega) _
end Go.Proofs.YtfggpcahfpjgmaaDoor.tree
