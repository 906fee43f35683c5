/- Merged: MarkTxt LawStr MkStr MkNeedS HdNeedS. -/
import Derived.Test.YtjcfaepklakpkaaGreatDoorRows
import Derived.Test.YtjcfaepklakpkaaGreatDoorBase
import Derived.Test.YtjcfaepklakpkaaGreatDoorGPre
import Derived.ProofKit
import Derived.OpenShut
import Derived.Test.YtjcfaepklakpkaaGreatDoorGEq
namespace Go.Proofs.YtjcfaepklakpkaaGreatDoor.lawMark
open Go.ChangeShapes Go.WideShapes Go.ChangeAt Go.RowKit
set_option linter.unusedVariables false

theorem mark_text (m : Int) (w : World) (hm : m ≤ 4611686018427387904) :
    Calls Tryz.prog 42 #[.int .i64 m] w fun e w' => e = .returned (.string (mt m)) ∧ Below w.heap.size w w' := by
  by_cases h0 : m ≤ 0
  · have He := Lib.hid (mt_lo h0)
    go_enter Tryz.func42, Tryz.ntmps42
    go_wp2_with fail
    go_ret
    exact ⟨by rw [He.out]; rfl, Below.refl _ _⟩
  · have He := Lib.hid (mt_hi h0)
    obtain ⟨n0, rfl⟩ := Int.eq_ofNat_of_zero_le (show 0 ≤ m by omega)
    have hn0 : 0 < n0 := by omega
    clear h0
    go_enter Tryz.func42, Tryz.ntmps42
    go_wp2_with fail
    go_loopw [0, 3] (fun a s wr => ∃ (n f : Nat) (acc : List UInt8), n ≤ f ∧ a = .int .i64 n ∧ s = .string ⟨acc.toArray⟩ ∧ acc.length + n ≤ n0 ∧ Hid (dg f n acc = dg n0 n0 []) ∧ Below w.heap.size w wr) (fun a _ _ => (intOf a).toNat)
    case atStart => exact ⟨n0, n0, [], Nat.le_refl _, rfl, rfl, by simp, rfl, Below.refl _ _⟩
    case round =>
      obtain ⟨n, f, acc, hf, rfl, rfl, hlen, hd, hbel⟩ := hrel
      by_cases hpos : 0 < n
      · have e1 : ((n : Int) % 10) = ((n % 10 : Nat) : Int) := by omega
        have hconv := run_convert_own (P := Tryz.prog) (wr.alloc (.cells #[.int .u8 (48 + (n : Int) % 10)] 5)) 22 5 9 Tryz.underlying22 Tryz.underlying5 Tryz.underlying9 wr.heap.size (.slice (some ⟨wr.heap.size, 0, none⟩) 1 1) [UInt8.ofNat (48 + n % 10)] (by
          have h := World.ownsRow_lit (size := 1) (base := wr.heap.size) (e := 5) wr #[.int .u8 (48 + (n : Int) % 10)] 1 (Nat.le_refl _) (by simp [maxLen]) rfl
          have hv : bcells [UInt8.ofNat (48 + n % 10)] = [.int .u8 (48 + (n : Int) % 10)] := by simp [bcells]; omega
          unfold OwnB
          rw [hv]
          exact h)
        clear e1
        obtain ⟨f, rfl⟩ : ∃ f', f = f' + 1 := ⟨f - 1, by omega⟩
        have hstep : dg (f + 1) n acc = dg f (n / 10) (UInt8.ofNat (48 + n % 10) :: acc) := by rw [dg, if_neg (by omega)]
        have Hd : Hid (dg f (n / 10) (UInt8.ofNat (48 + n % 10) :: acc) = dg n0 n0 []) := hstep.symm.trans hd.out
        clear hstep hd
        have hbel2 := hbel.alloc hbel.size (.cells #[.int .u8 (48 + (n : Int) % 10)] 5)
        go_wp2_with fail
        go_roundw
        case rel => exact ⟨n / 10, f, UInt8.ofNat (48 + n % 10) :: acc, by omega, by go_num, by refine (congrArg Value.string (bytes_cons _ _)).trans ?_; simp, by simp; omega, Hd, hbel2⟩
        case measure => simp [intOf]; omega
      · obtain rfl : n = 0 := by omega
        rw [dg_zero] at hd
        have h2 : mt (n0 : Int) = ⟨(109 :: acc).toArray⟩ := by rw [He.out]; simp only [Int.toNat_natCast]; rw [hd.out]
        have H2 := Lib.hid h2
        clear h2
        clear He hd
        go_wp2_with fail
        go_ret
        exact ⟨by rw [H2.out]; exact ret_str (bytes_cons _ _), hbel⟩

end Go.Proofs.YtjcfaepklakpkaaGreatDoor.lawMark
namespace Go.Proofs.YtjcfaepklakpkaaGreatDoor.lawStr
open Go.ChangeShapes Go.WideShapes Go.ChangeAt Go.RowKit
set_option linter.unusedVariables false

/-- The digits of m in front of acc (f: fuel). -/
def dg : Nat → Nat → List UInt8 → List UInt8
  | 0, _, acc => acc
  | f + 1, m, acc => if m = 0 then acc else dg f (m / 10) (UInt8.ofNat (48 + m % 10) :: acc)
theorem dg_zero (f : Nat) (acc : List UInt8) : dg f 0 acc = acc := by cases f <;> simp [dg]
/-- The law's mark of number m. -/
def mt (m : Int) : ByteArray := if m ≤ 0 then ⟨#[109, 48]⟩ else ⟨(109 :: dg m.toNat m.toNat []).toArray⟩
theorem mt_lo {m : Int} (h : m ≤ 0) : mt m = ⟨#[109, 48]⟩ := by unfold mt; rw [if_pos h]
theorem mt_hi {m : Int} (h : ¬ m ≤ 0) : mt m = ⟨(109 :: dg m.toNat m.toNat []).toArray⟩ := by unfold mt; rw [if_neg h]

theorem mark_text (m : Int) (w : World) (hm : m ≤ 4611686018427387904) :
    Calls Tryz.prog 42 #[.int .i64 m] w fun e w' => e = .returned (.string (mt m)) ∧ Below w.heap.size w w' := by
  by_cases h0 : m ≤ 0
  · have He := Lib.hid (mt_lo h0)
    go_enter Tryz.func42, Tryz.ntmps42
    go_wp2_with fail
    go_ret
    exact ⟨by rw [He.out]; rfl, Below.refl _ _⟩
  · have He := Lib.hid (mt_hi h0)
    obtain ⟨n0, rfl⟩ := Int.eq_ofNat_of_zero_le (show 0 ≤ m by omega)
    have hn0 : 0 < n0 := by omega
    clear h0
    go_enter Tryz.func42, Tryz.ntmps42
    go_wp2_with fail
    go_loopw [0, 3] (fun a s wr => ∃ (n f : Nat) (acc : List UInt8), n ≤ f ∧ a = .int .i64 n ∧ s = .string ⟨acc.toArray⟩ ∧ acc.length + n ≤ n0 ∧ Hid (dg f n acc = dg n0 n0 []) ∧ Below w.heap.size w wr) (fun a _ _ => (intOf a).toNat)
    case atStart => exact ⟨n0, n0, [], Nat.le_refl _, rfl, rfl, by simp, rfl, Below.refl _ _⟩
    case round =>
      obtain ⟨n, f, acc, hf, rfl, rfl, hlen, hd, hbel⟩ := hrel
      by_cases hpos : 0 < n
      · have e1 : ((n : Int) % 10) = ((n % 10 : Nat) : Int) := by omega
        have hconv := run_convert_own (P := Tryz.prog) (wr.alloc (.cells #[.int .u8 (48 + (n : Int) % 10)] 5)) 22 5 9 Tryz.underlying22 Tryz.underlying5 Tryz.underlying9 wr.heap.size (.slice (some ⟨wr.heap.size, 0, none⟩) 1 1) [UInt8.ofNat (48 + n % 10)] (by
          have h := World.ownsRow_lit (size := 1) (base := wr.heap.size) (e := 5) wr #[.int .u8 (48 + (n : Int) % 10)] 1 (Nat.le_refl _) (by simp [maxLen]) rfl
          have hv : bcells [UInt8.ofNat (48 + n % 10)] = [.int .u8 (48 + (n : Int) % 10)] := by simp [bcells]; omega
          unfold OwnB
          rw [hv]
          exact h)
        clear e1
        obtain ⟨f, rfl⟩ : ∃ f', f = f' + 1 := ⟨f - 1, by omega⟩
        have hstep : dg (f + 1) n acc = dg f (n / 10) (UInt8.ofNat (48 + n % 10) :: acc) := by rw [dg, if_neg (by omega)]
        have Hd : Hid (dg f (n / 10) (UInt8.ofNat (48 + n % 10) :: acc) = dg n0 n0 []) := hstep.symm.trans hd.out
        clear hstep hd
        have hbel2 := hbel.alloc hbel.size (.cells #[.int .u8 (48 + (n : Int) % 10)] 5)
        go_wp2_with fail
        go_roundw
        case rel => exact ⟨n / 10, f, UInt8.ofNat (48 + n % 10) :: acc, by omega, by go_num, by refine (congrArg Value.string (bytes_cons _ _)).trans ?_; simp, by simp; omega, Hd, hbel2⟩
        case measure => simp [intOf]; omega
      · obtain rfl : n = 0 := by omega
        rw [dg_zero] at hd
        have h2 : mt (n0 : Int) = ⟨(109 :: acc).toArray⟩ := by rw [He.out]; simp only [Int.toNat_natCast]; rw [hd.out]
        have H2 := Lib.hid h2
        clear h2
        clear He hd
        go_wp2_with fail
        go_ret
        exact ⟨by rw [H2.out]; exact ret_str (bytes_cons _ _), hbel⟩

/-- The marks m, m + 1, .. of n places. -/
def marks (m : Int) (n : Nat) : List ByteArray := (List.range n).map fun (j : Nat) => mt (m + (j : Int))
theorem marks_length (m : Int) (n : Nat) : (marks m n).length = n := by simp [marks]
theorem marks_succ (m : Int) (n : Nat) : marks m (n + 1) = marks m n ++ [mt (m + n)] := by simp [marks, List.range_succ]
theorem marks_get (m : Int) (n k : Nat) (h : k < n) : (scells (marks m n))[k]? = some (.string (mt (m + k))) := by simp [scells, marks, h]

theorem set_step (xs : List Value) (m : Int) (k n : Nat) (hx : xs.length = n) (hk : k < n) :
    (scells (marks m k) ++ xs.drop k).set k (.string (mt (m + k))) = scells (marks m (k + 1)) ++ xs.drop (k + 1) := by
  rw [marks_succ, scells_append, List.append_assoc]
  rw [List.set_append_right _ _ (by simp [scells_length, marks_length])]
  congr 1
  simp only [scells_length, marks_length, Nat.sub_self]
  rw [List.drop_eq_getElem_cons (by omega : k < xs.length), List.set_cons_zero]
  simp [scells]

theorem mark_own {e0 : TypeId} (B g n c : Nat) (m : Int) (xs : List Value) (w : World) (hown : w.ownsRow B e0 1 (.slice (some ⟨g, 0, none⟩) n c) n xs) (h0 : 0 ≤ m) (hm : m + n ≤ 4611686018427387904) :
    Calls Tryz.prog 43 #[.slice (some ⟨g, 0, none⟩) n c, .int .i64 m] w fun e w' =>
      e = .returned (.int .i64 (m + n)) ∧ w'.ownsRow B e0 1 (.slice (some ⟨g, 0, none⟩) n c) n (scells (marks m n)) ∧ w.grownBy w' (some g) := by
  have hxn : xs.length = n := by have := hown.1; omega
  have Hx := Lib.hid hxn
  clear hxn
  go_enter Tryz.func43, Tryz.ntmps43
  go_wp2_with fail
  go_loopw [1, 5] (fun a i wr => ∃ k : Nat, k ≤ n ∧ i = .int .i64 k ∧ a = .int .i64 (m + k) ∧ wr.ownsRow B e0 1 (.slice (some ⟨g, 0, none⟩) n c) n (scells (marks m k) ++ xs.drop k) ∧ w.grownBy wr (some g)) (fun _ i _ => n - (intOf i).toNat)
  case atStart => exact ⟨0, Nat.zero_le _, rfl, by simp, by simpa [marks, scells] using hown, World.grownBy.refl _ _⟩
  case round =>
    clear hown
    obtain ⟨k, hk, rfl, rfl, hown, hgr⟩ := hrel
    by_cases hlt : k < n
    · go_wp2_with fail
      refine (mark_text _ _ (by omega)).mono ?_
      rintro e w1 ⟨rfl, hb1⟩
      have hown1 := hown.kept (grown_of_below hb1 none) (by simp [Value.ownBlock])
      have hgr1 := grown_trans hgr (grown_of_below hb1 (some g))
      have hc := hown1.cellAt k (by omega)
      have hf := hown1.frozenAt k
      have hl : k < (scells (marks m k) ++ xs.drop k).length := by simp [scells_length, marks_length, Hx.out]; omega
      rw [List.getElem?_eq_getElem hl] at hc
      have hst := hown1.stored k (.string (mt (m + k)))
      rw [set_step xs m k n Hx.out hlt] at hst
      have hown2 := hst.1
      have hgr2 := grown_trans hgr1 hst.2
      clear hst hown hown1 hgr hgr1
      generalize (scells (marks m k) ++ xs.drop k)[k] = old at hc
      clear hl
      go_wp2_with fail
      go_roundw
      case rel => exact ⟨k + 1, by omega, by go_num, by go_num, hown2, hgr2⟩
      case measure => simp [intOf]; omega
    · obtain rfl : k = n := by omega
      rw [List.drop_of_length_le (by have := Hx.out; omega), List.append_nil] at hown
      go_wp2_with fail
      go_ret
      exact ⟨rfl, hown, hgr⟩

theorem mark_nil (m : Int) (w : World) (h0 : 0 ≤ m) (hm : m ≤ 4611686018427387904) :
    Calls Tryz.prog 43 #[.slice none 0 0, .int .i64 m] w fun e w' => e = .returned (.int .i64 m) ∧ w = w' := by
  go_enter Tryz.func43, Tryz.ntmps43
  go_wp2_with fail
  refine wp_loop_rounds 1 ?_
  rw [rounds_succ]
  go_wp2_with fail
  go_ret
  exact ⟨rfl, rfl⟩

theorem mark_any {e0 : TypeId} (B n : Nat) (v : Value) (m : Int) (xs : List Value) (w : World) (hown : w.ownsRow B e0 1 v n xs) (h0 : 0 ≤ m) (hm : m + n ≤ 4611686018427387904) :
    Calls Tryz.prog 43 #[v, .int .i64 m] w fun e w' =>
      e = .returned (.int .i64 (m + n)) ∧ w'.ownsRow B e0 1 v n (scells (marks m n)) ∧ w.grownBy w' v.ownBlock := by
  have hown' := hown
  rcases hown.2 with ⟨rfl, rfl⟩ | ⟨g, cap, cur, rfl, hb, hg, hnc, hcm, hcs, htake⟩
  · refine (mark_nil m w h0 (by omega)).mono ?_
    rintro e w' ⟨rfl, rfl⟩
    exact ⟨ret_int (by simp), World.ownsRow_nil _ _ _ _, World.grownBy.refl _ _⟩
  · exact mark_own B g n cap m xs w hown' h0 hm

theorem held_yes (A : Option Addr) (n c : Nat) (m : Int) (w : World) (hr : Rd w A n (scells (marks m n))) (h0 : 0 ≤ m) (hm : m + n ≤ 4611686018427387904) :
    Calls Tryz.prog 44 #[.slice A n c, .int .i64 m] w fun e w' => e = .returned (.int .i64 (m + n)) ∧ Below w.heap.size w w' := by
  have Hr := Lib.hid hr
  clear hr
  go_enter Tryz.func44, Tryz.ntmps44
  go_wp2_with fail
  go_loopw [1, 5] (fun a i wr => ∃ k : Nat, k ≤ n ∧ i = .int .i64 k ∧ a = .int .i64 (m + k) ∧ Below w.heap.size w wr) (fun _ i _ => n - (intOf i).toNat)
  case atStart => exact ⟨0, Nat.zero_le _, rfl, by simp, Below.refl _ _⟩
  case round =>
    obtain ⟨k, hk, rfl, rfl, hbel⟩ := hrel
    by_cases hlt : k < n
    · obtain ⟨g, o, rfl, hg, hc0⟩ := Hr.out.2 (by omega)
      have hc1 := hc0 k hlt _ (marks_get m n k hlt)
      have hc : wr.cell? ⟨g, o + k, none⟩ = some (.string (mt (m + k))) := (hbel.cell (p := ⟨g, o + k, none⟩) hg).trans hc1
      have hgs : g < wr.heap.size := Nat.lt_of_lt_of_le hg hbel.size
      clear hc0 hc1
      go_wp2_with fail
      go_region_law (go_simp; go_at_call 42; refine (mark_text _ _ (by omega)).mono ?_; rintro e w1 ⟨rfl, hb1⟩; have hc2 : w1.cell? ⟨g, o + k, none⟩ = some (.string (mt (m + k))) := (hb1.cell (p := ⟨g, o + k, none⟩) hgs).trans hc)
      all_goals
        have hbel2 := hbel.drew.trans (hb1.mono hbel.size)
        go_wp2_with fail
        go_roundw
        case rel => exact ⟨k + 1, by omega, by go_num, by go_num, hbel2⟩
        case measure => simp [intOf]; omega
    · obtain rfl : k = n := by omega
      go_wp2_with fail
      go_ret
      exact ⟨rfl, hbel⟩
end Go.Proofs.YtjcfaepklakpkaaGreatDoor.lawStr
namespace Go.Proofs.YtjcfaepklakpkaaGreatDoor.ty
open Go.ChangeShapes Go.WideShapes Go.ChangeAt Go.RowKit
set_option linter.unusedVariables false

theorem dg_same : ∀ (f m : Nat) (acc : List UInt8), lawStr.dg f m acc = lawMark.dg f m acc
  | 0, m, acc => rfl
  | f + 1, m, acc => by rw [lawStr.dg, lawMark.dg, dg_same f]
theorem mt_same (m : Int) : lawStr.mt m = lawMark.mt m := by
  unfold lawStr.mt lawMark.mt
  rw [dg_same]
theorem marks_same (l : List ByteArray) (k : Int) : lawStr.marks k l.length = mks Str.mark Str.cost l k := by
  rw [Str.marks]
  unfold lawStr.marks
  refine List.map_congr_left fun j _ => mt_same _
theorem mkStr (B : Nat) (v : Value) (l : List ByteArray) (f : Nat) (F : List Nat) (k : Int) (w : World) (hown : Own w B (f + 1) v (.sl 1 l.length (l.flatMap Str.row)) F) (h0 : 0 ≤ k) (hk : k + wsum Str.cost l ≤ 4611686018427387904) :
    Calls Tryz.prog 43 #[v, .int .i64 k] w fun e w' => e = .returned (.int .i64 (k + wsum Str.cost l)) ∧ Own w' B (f + 1) v (.sl 1 l.length ((mks Str.mark Str.cost l k).flatMap Str.row)) F ∧ KeptBut F w w' := by
  rw [Str.flat] at hown
  rw [Str.cost_sum] at hk ⊢
  obtain ⟨e0, hr, _, hF⟩ := own_strs_row hown
  refine (lawStr.mark_any B l.length v k _ w hr h0 hk).mono ?_
  rintro e w1 ⟨rfl, hr1, hg⟩
  refine ⟨rfl, ?_, KeptBut.of_row hg hF⟩
  rw [Str.flat, ← marks_same]
  exact own_strs_again hown hr1 (by rw [lawStr.marks_length]) (fun x hx => by
    simp only [lawStr.marks, List.mem_map, List.mem_range] at hx
    obtain ⟨m, hm, rfl⟩ := hx
    rw [mt_same]
    exact lawMark.mt_size _ (by omega)) hF
theorem hdStr (l : List ByteArray) (f : Nat) (v : Value) (k : Int) (w : World) (h : Lies w f v (.sl 1 l.length ((mks Str.mark Str.cost l k).flatMap Str.row))) (h0 : 0 ≤ k) (hk : k + wsum Str.cost l ≤ 4611686018427387904) :
    Calls Tryz.prog 44 #[v, .int .i64 k] w fun e w' => e = .returned (.int .i64 (k + wsum Str.cost l)) ∧ Below w.heap.size w w' := by
  have hl := mks_length Str.mark Str.cost l k
  rw [← hl] at h
  obtain ⟨A, c, rfl, k1, m1, r1, _⟩ := Str.opened h
  rw [hl] at r1 ⊢
  rw [← marks_same] at r1
  rw [Str.cost_sum] at hk ⊢
  exact lawStr.held_yes A l.length c k w r1 h0 hk
end Go.Proofs.YtjcfaepklakpkaaGreatDoor.ty
namespace Go.Proofs.YtjcfaepklakpkaaGreatDoor.ty
open Go.ChangeShapes Go.WideShapes Go.ChangeAt Go.RowKit
set_option linter.unusedVariables false

theorem mkNeedS_nil (k : Int) (w : World) (h0 : 0 ≤ k) (hk : k ≤ 4611686018427387904) :
    Calls Tryz.prog 17 #[.slice none 0 0, .int .i64 k] w fun e w' => e = .returned (.int .i64 k) ∧ w' = w := by
  go_enter Tryz.func17, Tryz.ntmps17
  go_wp2_with fail
  refine wp_loop_rounds 1 ?_
  rw [rounds_succ]
  go_wp2_with fail
  go_ret
  exact ⟨rfl, rfl⟩
theorem row_markNeed (a0 a1 a2) (K : Int) : Need.row (Need.mark (Need.mk a0 a1 a2) K) = [.str (lawMark.mt (K)), .int .i64 (K + 1), .sl 1 a2.length ((mks Str.mark Str.cost a2 (K + 2)).flatMap Str.row)] := by
  unfold Need.mark Need.row
  simp only [mks_length]
set_option maxRecDepth 100000 in
set_option maxHeartbeats 8000000 in
theorem mkNeedS (B : Nat) (v : Value) (l : List Need) (f : Nat) (F : List Nat) (k : Int) (w : World) (hown : Own w B (f + 1) v (.sl 3 l.length (l.flatMap Need.row)) F) (hnd : F.Nodup) (h0 : 0 ≤ k) (hk : k + wsum Need.cost l ≤ 4611686018427387904) :
    Calls Tryz.prog 17 #[v, .int .i64 k] w fun e w' => e = .returned (.int .i64 (k + wsum Need.cost l)) ∧ Own w' B (f + 1) v (.sl 3 l.length ((mks Need.mark Need.cost l k).flatMap Need.row)) F ∧ KeptBut F w w' := by
  have hown' := hown
  obtain ⟨hl, ⟨rfl, hn, rfl⟩ | ⟨g, c, cur, e, Fs, rfl, h1, h2, h3, h4, hz, hF, h5, h6⟩⟩ := hown'
  · have : l = [] := List.eq_nil_of_length_eq_zero hn
    subst this
    refine (mkNeedS_nil k w h0 (by simpa [wsum] using hk)).mono ?_
    rintro e w' ⟨rfl, rfl⟩
    exact ⟨by simp [wsum], by simpa [mks] using hown, KeptBut.refl _ _⟩
  have hcm : l.length ≤ 9223372036854775807 := by unfold maxLen at h2; omega
  clear hl h3 h4 hz hF h5 h6 cur e Fs
  have Hown := Lib.hid hown
  clear hown
  go_enter Tryz.func17, Tryz.ntmps17
  go_wp2_with fail
  go_loopw [1, 5] (fun a i wr => ∃ (j : Nat), j ≤ l.length ∧ i = .int .i64 j ∧ a = .int .i64 (k + wsum Need.cost (l.take j)) ∧ Own wr B (f + 1) (.slice (some ⟨g, 0, none⟩) l.length c) (.sl 3 l.length ((mks Need.mark Need.cost (l.take j) k ++ l.drop j).flatMap Need.row)) F ∧ KeptBut F w wr) (fun _ i _ => l.length - (intOf i).toNat)
  case atStart => exact ⟨0, Nat.zero_le _, rfl, by simp [wsum], by simpa [mks] using Hown.out, KeptBut.refl _ _⟩
  case round =>
    clear Hown
    obtain ⟨j, hj, rfl, rfl, hown, hkb⟩ := hrel
    by_cases hlt : j < l.length
    · have hdrop : l.drop j = l[j] :: l.drop (j + 1) := List.drop_eq_getElem_cons hlt
      have hnext := wsum_take Need.cost hlt
      have hall := wsum_all Need.cost l (j + 1)
      have hmark := mks_next Need.mark Need.cost hlt k
      rw [hdrop, List.flatMap_append, List.flatMap_cons] at hown
      have Hmark := Lib.hid hmark
      have HL := Lib.hid (show ((mks Need.mark Need.cost (l.take j) k).flatMap Need.row).length = j * 3 by rw [flat_length' Need.row_length, mks_length, List.length_take]; congr 1; omega)
      have Hnext := Lib.hid hnext
      obtain ⟨a0, a1, a2, hx⟩ : ∃ a0 a1 a2, l[j] = Need.mk a0 a1 a2 := ⟨l[j].key, l[j].op, l[j].values, rfl⟩
      rw [hx] at hown Hmark Hnext hnext
      rw [show Need.cost (Need.mk a0 a1 a2) = 2 + wsum Str.cost a2 from rfl] at Hnext hnext
      generalize wsum Need.cost (l.take j) = C0 at *
      have hkk : k + C0 + ((2 + wsum Str.cost a2 : Nat) : Int) ≤ 4611686018427387904 := by omega
      clear hmark hnext hall hx hdrop
      obtain ⟨K, hK⟩ : ∃ K, k + C0 = K := ⟨_, rfl⟩
      rw [hK] at hkk Hmark ⊢
      have hK0 : 0 ≤ K := by omega
      have HK := Lib.hid hK
      clear hK
      generalize hLL : (mks Need.mark Need.cost (l.take j) k).flatMap Need.row = L at *
      generalize hRR : (l.drop (j + 1)).flatMap Need.row = R at *
      have hown0 : Own wr B (f + 1) (.slice (some ⟨g, 0, none⟩) l.length c) (.sl 3 l.length (mid L [.str a0, .int .i64 a1, .sl 1 a2.length (a2.flatMap Str.row)] R)) F := hown
      clear hown
      cases f with
      | zero =>
        obtain ⟨_, _, _, _, ho, _⟩ := Own.field hown0 hnd HL.out (r := 0) rfl
        exact ho.elim
      | succ f =>
      have HMT := Lib.hid (fun m w hm => lawMark.mark_text m w hm)
      have e1 : (K + 1) + 1 = K + 2 := by omega
      go_wp2_with fail
      refine (HMT.out (K) _ (by omega)).mono ?_
      rintro e x1 ⟨rfl, hb1⟩
      have on1 := Own.below hown0 hb1
      have kn1 := KeptBut.trans hkb (KeptBut.of_below hb1)
      clear hb1 hown0 hkb
      obtain ⟨o0, b0, ⟨q0, p0⟩, f0⟩ := Own.put (r := 0) (d' := .str (lawMark.mt (K))) (u' := .string (lawMark.mt (K))) on1 hnd HL.out rfl trivial (fun w' => own_str (lawMark.mt_size _ (by omega)))
      have k0 := KeptBut.trans kn1 b0
      simp only [Nat.add_zero] at o0 k0 p0 f0 b0
      clear b0 on1 kn1
      obtain ⟨o1, b1, ⟨q1, p1⟩, f1⟩ := Own.put (r := 1) (d' := .int .i64 (K + 1)) (u' := .int .i64 (K + 1)) o0 hnd HL.out rfl trivial (fun w' => own_int (lawMark.wf_of (by omega) (by omega)))
      have k1 := KeptBut.trans k0 b1
      clear b1 o0 k0
      obtain ⟨u2, G2, q2, _, s2, hs2, _, _, hd2, back2⟩ := Own.field (r := 2) (d := .sl 1 a2.length (a2.flatMap Str.row)) o1 hnd HL.out rfl
      have HM2 := Lib.hid (mkStr B u2 a2 f G2 (K + 2) _ s2 (by omega) (by omega))
      have Hback2 := Lib.hid back2
      have Hkb2 := Lib.hid k1
      have Hs2 := Lib.hid hs2
      clear s2 hs2 hd2 back2 o1 k1
      go_wp2_with fail
      refine HM2.out.mono ?_
      rintro e x2 ⟨rfl, m2, km2⟩
      have o2 := Hback2.out x2 _ km2 m2
      have k2 := KeptBut.trans Hkb2.out (km2.mono Hs2.out)
      clear HM2 Hback2 Hkb2 Hs2 km2 m2 q2 p0 f0 p1 f1
      have Ho9 : Hid (Own x2 B (f + 1 + 1) (.slice (some ⟨g, 0, none⟩) l.length c) (.sl 3 l.length ((mks Need.mark Need.cost (l.take (j + 1)) k ++ l.drop (j + 1)).flatMap Need.row)) F) := by
        unfold Hid
        rw [Hmark.out, List.flatMap_append, List.flatMap_cons, hLL, hRR, row_markNeed]
        exact o2
      have Hkb9 := Lib.hid k2
      clear o2 k2 HMT
      go_wp2_with fail
      go_roundw
      case rel => exact ⟨j + 1, by omega, by go_num, by rw [Hnext.out]; have := HK.out; congr 1; omega, Ho9.out, Hkb9.out⟩
      case measure => simp [intOf]; omega
    · obtain rfl : j = l.length := by omega
      rw [List.take_of_length_le (Nat.le_refl _), List.drop_of_length_le (Nat.le_refl _), List.append_nil] at hown
      have Hown := Lib.hid hown
      have Hkb := Lib.hid hkb
      clear hown hkb
      rw [List.take_of_length_le (Nat.le_refl _)]
      go_wp2_with fail
      go_ret
      exact ⟨rfl, Hown.out, Hkb.out⟩
end Go.Proofs.YtjcfaepklakpkaaGreatDoor.ty
namespace Go.Proofs.YtjcfaepklakpkaaGreatDoor.ty
open Go.ChangeShapes Go.WideShapes Go.ChangeAt Go.RowKit
set_option linter.unusedVariables false

set_option maxRecDepth 100000 in
set_option maxHeartbeats 8000000 in
theorem hdNeedS (l : List Need) (f : Nat) (v : Value) (k : Int) (w : World) (h : Lies w f v (.sl 3 l.length ((mks Need.mark Need.cost l k).flatMap Need.row))) (h0 : 0 ≤ k) (hkk : k + wsum Need.cost l ≤ 4611686018427387904) :
    Calls Tryz.prog 18 #[v, .int .i64 k] w fun e w' => e = .returned (.int .i64 (k + wsum Need.cost l)) ∧ Below w.heap.size w w' := by
  have hml := mks_length Need.mark Need.cost l k
  rw [← hml] at h
  obtain ⟨A, c, rfl, hc1, hc2, f', rfl, hk⟩ := els_of Need.row_length h
  rw [hml] at hc1 ⊢
  unfold maxLen at hc2
  have Hk := Lib.hid hk
  have Hml := Lib.hid hml
  clear h hk hml
  go_enter Tryz.func18, Tryz.ntmps18
  go_wp2_with fail
  go_loopw [1, 5] (fun a i wr => ∃ (j : Nat), j ≤ l.length ∧ i = .int .i64 j ∧ a = .int .i64 (k + wsum Need.cost (l.take j)) ∧ Below w.heap.size w wr) (fun _ i _ => l.length - (intOf i).toNat)
  case atStart => exact ⟨0, Nat.zero_le _, rfl, by simp [wsum], Below.refl _ _⟩
  case round =>
    obtain ⟨j, hj, rfl, rfl, hbel⟩ := hrel
    by_cases hlt : j < l.length
    · obtain ⟨g, o, rfl, hg, hcc⟩ := (Hk.out.below hbel) (by rw [Hml.out]; omega)
      obtain ⟨us, hus, hc, hls⟩ := hcc j _ (mks_get Need.mark Need.cost hlt k)
      have hnext := wsum_take Need.cost hlt
      have hall := wsum_all Need.cost l (j + 1)
      have Hnext := Lib.hid hnext
      obtain ⟨a0, a1, a2, hx⟩ : ∃ a0 a1 a2, l[j] = Need.mk a0 a1 a2 := ⟨l[j].key, l[j].op, l[j].values, rfl⟩
      rw [hx] at hls Hnext hnext
      rw [show Need.cost (Need.mk a0 a1 a2) = 2 + wsum Str.cost a2 from rfl] at Hnext hnext
      generalize wsum Need.cost (l.take j) = C0 at *
      have hkk2 : k + C0 + ((2 + wsum Str.cost a2 : Nat) : Int) ≤ 4611686018427387904 := by omega
      obtain ⟨K, hK⟩ : ∃ K, k + C0 = K := ⟨_, rfl⟩
      rw [hK] at hls hkk2 ⊢
      obtain ⟨A2, c2, rfl, hwf, k2, m2, l2⟩ := Need.opened hls
      simp only [Need.mark, mks_length] at k2 l2 hc
      have q0 : wr.cell? ⟨g, o + j * 3, none⟩ = some (.string (lawMark.mt (K))) := hc 0 _ rfl
      have q1 : wr.cell? ⟨g, o + j * 3 + 1, none⟩ = some (.int .i64 (K + 1)) := hc 1 _ rfl
      have e1 : (K + 1) + 1 = K + 2 := by omega
      have q2 : wr.cell? ⟨g, o + j * 3 + 2, none⟩ = some (.slice A2 a2.length c2) := hc 2 _ rfl
      have HS2 := Lib.hid (fun w1 (hb : Below wr.heap.size wr w1) => hdStr a2 _ (.slice A2 a2.length c2) (K + 2) w1 (l2.below hb) (by omega) (by omega))
      have HK := Lib.hid hK
      have hK0 : 0 ≤ K := by omega
      have HMT := Lib.hid (fun m w hm => lawMark.mark_text m w hm)
      have Hbel := Lib.hid hbel
      have Hw0 := Lib.hid (Below.refl wr.heap.size wr)
      clear hcc hus hc hls hwf hnext hall hbel hK hx k2 m2 l2
      go_wp2_with fail
      go_region_law (go_simp; go_at_call 42; refine (HMT.out (K) _ (by omega)).mono ?_; rintro e y0 ⟨rfl, hb0⟩; have r0_0 : y0.cell? ⟨g, o + j * 3, none⟩ = some (.string (lawMark.mt (K))) := (hb0.cell (p := ⟨g, o + j * 3, none⟩) hg).trans q0; have r0_1 : y0.cell? ⟨g, o + j * 3 + 1, none⟩ = some (.int .i64 (K + 1)) := (hb0.cell (p := ⟨g, o + j * 3 + 1, none⟩) hg).trans q1; have r0_2 : y0.cell? ⟨g, o + j * 3 + 2, none⟩ = some (.slice A2 a2.length c2) := (hb0.cell (p := ⟨g, o + j * 3 + 2, none⟩) hg).trans q2)
      all_goals
        have hg1 : g < y0.heap.size := Nat.lt_of_lt_of_le hg hb0.size
        have Hw1 := Lib.hid (below_link Hw0.out ((Below.refl _ _).drew.trans (hb0.mono (Nat.le_refl _))) (Below.size Hw0.out))
        clear hb0 q0 q1 q2
        go_wp2_with fail
        refine (HS2.out _ Hw1.out).mono ?_
        rintro e y2 ⟨rfl, hb2⟩
        have hg3 : g < y2.heap.size := Nat.lt_of_lt_of_le hg1 hb2.size
        have Hw3 := Lib.hid (below_link Hw1.out hb2 (Below.size Hw1.out))
        clear hb2 r0_0 r0_1 r0_2
        have Hbz := Lib.hid (below_link Hbel.out Hw3.out (Below.size Hbel.out))
        go_wp2_with fail
        go_roundw
        case rel => exact ⟨j + 1, by omega, by go_num, by rw [Hnext.out]; have := HK.out; congr 1; omega, Hbz.out⟩
        case measure => simp [intOf]; omega
    · obtain rfl : j = l.length := by omega
      rw [List.take_of_length_le (Nat.le_refl _)]
      have Hbel := Lib.hid hbel
      clear hbel
      go_wp2_with fail
      go_ret
      exact ⟨rfl, Hbel.out⟩
end Go.Proofs.YtjcfaepklakpkaaGreatDoor.ty
