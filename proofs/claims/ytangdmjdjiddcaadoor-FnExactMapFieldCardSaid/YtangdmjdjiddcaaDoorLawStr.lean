/- The law's own helpers on []string: eqStringS on equal lists; markStringS writes marks into a list of the call's own; heldStringS finds them. -/
import Derived.Test.YtangdmjdjiddcaaDoorRows
import Derived.Test.YtangdmjdjiddcaaDoorGA0
import Derived.Test.YtangdmjdjiddcaaDoorGA5
import Derived.ProofKit
import Derived.OpenShut
namespace Go.Proofs.YtangdmjdjiddcaaDoor.lawStr
open Go.ChangeShapes Go.WideShapes Go.ChangeAt Go.RowKit
set_option linter.unusedVariables false

/-- The digits of m in front of acc (f: fuel). -/
def dg : Nat → Nat → List UInt8 → List UInt8
  | 0, _, acc => acc
  | f + 1, m, acc => if m = 0 then acc else dg f (m / 10) (UInt8.ofNat (48 + m % 10) :: acc)
theorem dg_zero (f : Nat) (acc : List UInt8) : dg f 0 acc = acc := by cases f <;> simp [dg]
/-- The law's mark of number m. -/
def mt (m : Int) : ByteArray := if m ≤ 0 then ⟨#[109, 48]⟩ else ⟨(109 :: dg m.toNat m.toNat []).toArray⟩
theorem mt_lo {m : Int} (h : m ≤ 0) : mt m = ⟨#[109, 48]⟩ := by unfold mt; rw [if_pos h]
theorem mt_hi {m : Int} (h : ¬ m ≤ 0) : mt m = ⟨(109 :: dg m.toNat m.toNat []).toArray⟩ := by unfold mt; rw [if_neg h]

theorem mark_text (m : Int) (w : World) (hm : m ≤ 4611686018427387904) :
    Calls Tryd.prog 55 #[.int .i64 m] w fun e w' => e = .returned (.string (mt m)) ∧ Below w.heap.size w w' := by
  by_cases h0 : m ≤ 0
  · have He := Lib.hid (mt_lo h0)
    go_enter Tryd.func55, Tryd.ntmps55
    go_wp2_with fail
    go_ret
    exact ⟨by rw [He.out]; rfl, Below.refl _ _⟩
  · have He := Lib.hid (mt_hi h0)
    obtain ⟨n0, rfl⟩ := Int.eq_ofNat_of_zero_le (show 0 ≤ m by omega)
    have hn0 : 0 < n0 := by omega
    clear h0
    go_enter Tryd.func55, Tryd.ntmps55
    go_wp2_with fail
    go_loopw [0, 3] (fun a s wr => ∃ (n f : Nat) (acc : List UInt8), n ≤ f ∧ a = .int .i64 n ∧ s = .string ⟨acc.toArray⟩ ∧ acc.length + n ≤ n0 ∧ Hid (dg f n acc = dg n0 n0 []) ∧ Below w.heap.size w wr) (fun a _ _ => (intOf a).toNat)
    case atStart => exact ⟨n0, n0, [], Nat.le_refl _, rfl, rfl, by simp, rfl, Below.refl _ _⟩
    case round =>
      obtain ⟨n, f, acc, hf, rfl, rfl, hlen, hd, hbel⟩ := hrel
      by_cases hpos : 0 < n
      · have e1 : ((n : Int) % 10) = ((n % 10 : Nat) : Int) := by omega
        have hconv := run_convert_own (P := Tryd.prog) (wr.alloc (.cells #[.int .u8 (48 + (n : Int) % 10)] 5)) 92 5 9 Tryd.underlying92 Tryd.underlying5 Tryd.underlying9 wr.heap.size (.slice (some ⟨wr.heap.size, 0, none⟩) 1 1) [UInt8.ofNat (48 + n % 10)] (by
          have h := World.ownsRow_lit (size := 1) (base := wr.heap.size) (e := 5) wr #[.int .u8 (48 + (n : Int) % 10)] 1 (Nat.le_refl _) (by simp [maxLen]) rfl
          have hv : bcells [UInt8.ofNat (48 + n % 10)] = [.int .u8 (48 + (n : Int) % 10)] := by simp [bcells]; omega
          unfold OwnB
          rw [hv]
          exact h)
        clear e1
        obtain ⟨f, rfl⟩ : ∃ f', f = f' + 1 := ⟨f - 1, by omega⟩
        have hstep : dg (f + 1) n acc = dg f (n / 10) (UInt8.ofNat (48 + n % 10) :: acc) := by rw [dg, if_neg (by omega)]
        have Hd : Hid (dg f (n / 10) (UInt8.ofNat (48 + n % 10) :: acc) = dg n0 n0 []) := hstep.symm.trans hd.out
        clear hstep hd
        have hbel2 := hbel.alloc hbel.size (.cells #[.int .u8 (48 + (n : Int) % 10)] 5)
        go_wp2_with fail
        go_roundw
        case rel => exact ⟨n / 10, f, UInt8.ofNat (48 + n % 10) :: acc, by omega, by go_num, by refine (congrArg Value.string (bytes_cons _ _)).trans ?_; simp, by simp; omega, Hd, hbel2⟩
        case measure => simp [intOf]; omega
      · obtain rfl : n = 0 := by omega
        rw [dg_zero] at hd
        have h2 : mt (n0 : Int) = ⟨(109 :: acc).toArray⟩ := by rw [He.out]; simp only [Int.toNat_natCast]; rw [hd.out]
        have H2 := Lib.hid h2
        clear h2
        clear He hd
        go_wp2_with fail
        go_ret
        exact ⟨by rw [H2.out]; exact ret_str (bytes_cons _ _), hbel⟩

/-- The marks m, m + 1, .. of n places. -/
def marks (m : Int) (n : Nat) : List ByteArray := (List.range n).map fun (j : Nat) => mt (m + (j : Int))
theorem marks_length (m : Int) (n : Nat) : (marks m n).length = n := by simp [marks]
theorem marks_succ (m : Int) (n : Nat) : marks m (n + 1) = marks m n ++ [mt (m + n)] := by simp [marks, List.range_succ]
theorem marks_get (m : Int) (n k : Nat) (h : k < n) : (scells (marks m n))[k]? = some (.string (mt (m + k))) := by simp [scells, marks, h]

theorem set_step (xs : List Value) (m : Int) (k n : Nat) (hx : xs.length = n) (hk : k < n) :
    (scells (marks m k) ++ xs.drop k).set k (.string (mt (m + k))) = scells (marks m (k + 1)) ++ xs.drop (k + 1) := by
  rw [marks_succ, scells_append, List.append_assoc]
  rw [List.set_append_right _ _ (by simp [scells_length, marks_length])]
  congr 1
  simp only [scells_length, marks_length, Nat.sub_self]
  rw [List.drop_eq_getElem_cons (by omega : k < xs.length), List.set_cons_zero]
  simp [scells]

theorem mark_own {e0 : TypeId} (B g n c : Nat) (m : Int) (xs : List Value) (w : World) (hown : w.ownsRow B e0 1 (.slice (some ⟨g, 0, none⟩) n c) n xs) (h0 : 0 ≤ m) (hm : m + n ≤ 4611686018427387904) :
    Calls Tryd.prog 54 #[.slice (some ⟨g, 0, none⟩) n c, .int .i64 m] w fun e w' =>
      e = .returned (.int .i64 (m + n)) ∧ w'.ownsRow B e0 1 (.slice (some ⟨g, 0, none⟩) n c) n (scells (marks m n)) ∧ w.grownBy w' (some g) := by
  have hxn : xs.length = n := by have := hown.1; omega
  have Hx := Lib.hid hxn
  clear hxn
  go_enter Tryd.func54, Tryd.ntmps54
  go_wp2_with fail
  go_loopw [1, 5] (fun a i wr => ∃ k : Nat, k ≤ n ∧ i = .int .i64 k ∧ a = .int .i64 (m + k) ∧ wr.ownsRow B e0 1 (.slice (some ⟨g, 0, none⟩) n c) n (scells (marks m k) ++ xs.drop k) ∧ w.grownBy wr (some g)) (fun _ i _ => n - (intOf i).toNat)
  case atStart => exact ⟨0, Nat.zero_le _, rfl, by simp, by simpa [marks, scells] using hown, World.grownBy.refl _ _⟩
  case round =>
    clear hown
    obtain ⟨k, hk, rfl, rfl, hown, hgr⟩ := hrel
    by_cases hlt : k < n
    · go_wp2_with fail
      refine (mark_text _ _ (by omega)).mono ?_
      rintro e w1 ⟨rfl, hb1⟩
      have hown1 := hown.kept (grown_of_below hb1 none) (by simp [Value.ownBlock])
      have hgr1 := grown_trans hgr (grown_of_below hb1 (some g))
      have hc := hown1.cellAt k (by omega)
      have hf := hown1.frozenAt k
      have hl : k < (scells (marks m k) ++ xs.drop k).length := by simp [scells_length, marks_length, Hx.out]; omega
      rw [List.getElem?_eq_getElem hl] at hc
      have hst := hown1.stored k (.string (mt (m + k)))
      rw [set_step xs m k n Hx.out hlt] at hst
      have hown2 := hst.1
      have hgr2 := grown_trans hgr1 hst.2
      clear hst hown hown1 hgr hgr1
      generalize (scells (marks m k) ++ xs.drop k)[k] = old at hc
      clear hl
      go_wp2_with fail
      go_roundw
      case rel => exact ⟨k + 1, by omega, by go_num, by go_num, hown2, hgr2⟩
      case measure => simp [intOf]; omega
    · obtain rfl : k = n := by omega
      rw [List.drop_of_length_le (by have := Hx.out; omega), List.append_nil] at hown
      go_wp2_with fail
      go_ret
      exact ⟨rfl, hown, hgr⟩

theorem mark_nil (m : Int) (w : World) (h0 : 0 ≤ m) (hm : m ≤ 4611686018427387904) :
    Calls Tryd.prog 54 #[.slice none 0 0, .int .i64 m] w fun e w' => e = .returned (.int .i64 m) ∧ w = w' := by
  go_enter Tryd.func54, Tryd.ntmps54
  go_wp2_with fail
  refine wp_loop_rounds 1 ?_
  rw [rounds_succ]
  go_wp2_with fail
  go_ret
  exact ⟨rfl, rfl⟩

theorem mark_any {e0 : TypeId} (B n : Nat) (v : Value) (m : Int) (xs : List Value) (w : World) (hown : w.ownsRow B e0 1 v n xs) (h0 : 0 ≤ m) (hm : m + n ≤ 4611686018427387904) :
    Calls Tryd.prog 54 #[v, .int .i64 m] w fun e w' =>
      e = .returned (.int .i64 (m + n)) ∧ w'.ownsRow B e0 1 v n (scells (marks m n)) ∧ w.grownBy w' v.ownBlock := by
  have hown' := hown
  rcases hown.2 with ⟨rfl, rfl⟩ | ⟨g, cap, cur, rfl, hb, hg, hnc, hcm, hcs, htake⟩
  · refine (mark_nil m w h0 (by omega)).mono ?_
    rintro e w' ⟨rfl, rfl⟩
    exact ⟨ret_int (by simp), World.ownsRow_nil _ _ _ _, World.grownBy.refl _ _⟩
  · exact mark_own B g n cap m xs w hown' h0 hm

theorem held_yes (A : Option Addr) (n c : Nat) (m : Int) (w : World) (hr : Rd w A n (scells (marks m n))) (h0 : 0 ≤ m) (hm : m + n ≤ 4611686018427387904) :
    Calls Tryd.prog 56 #[.slice A n c, .int .i64 m] w fun e w' => e = .returned (.int .i64 (m + n)) ∧ Below w.heap.size w w' := by
  have Hr := Lib.hid hr
  clear hr
  go_enter Tryd.func56, Tryd.ntmps56
  go_wp2_with fail
  go_loopw [1, 5] (fun a i wr => ∃ k : Nat, k ≤ n ∧ i = .int .i64 k ∧ a = .int .i64 (m + k) ∧ Below w.heap.size w wr) (fun _ i _ => n - (intOf i).toNat)
  case atStart => exact ⟨0, Nat.zero_le _, rfl, by simp, Below.refl _ _⟩
  case round =>
    obtain ⟨k, hk, rfl, rfl, hbel⟩ := hrel
    by_cases hlt : k < n
    · obtain ⟨g, o, rfl, hg, hc0⟩ := Hr.out.2 (by omega)
      have hc1 := hc0 k hlt _ (marks_get m n k hlt)
      have hc : wr.cell? ⟨g, o + k, none⟩ = some (.string (mt (m + k))) := (hbel.cell (p := ⟨g, o + k, none⟩) hg).trans hc1
      have hgs : g < wr.heap.size := Nat.lt_of_lt_of_le hg hbel.size
      clear hc0 hc1
      go_wp2_with fail
      go_region_law (go_simp; go_at_call 55; refine (mark_text _ _ (by omega)).mono ?_; rintro e w1 ⟨rfl, hb1⟩; have hc2 : w1.cell? ⟨g, o + k, none⟩ = some (.string (mt (m + k))) := (hb1.cell (p := ⟨g, o + k, none⟩) hgs).trans hc)
      all_goals
        have hbel2 := hbel.drew.trans (hb1.mono hbel.size)
        go_wp2_with fail
        go_roundw
        case rel => exact ⟨k + 1, by omega, by go_num, by go_num, hbel2⟩
        case measure => simp [intOf]; omega
    · obtain rfl : k = n := by omega
      go_wp2_with fail
      go_ret
      exact ⟨rfl, hbel⟩
end Go.Proofs.YtangdmjdjiddcaaDoor.lawStr
