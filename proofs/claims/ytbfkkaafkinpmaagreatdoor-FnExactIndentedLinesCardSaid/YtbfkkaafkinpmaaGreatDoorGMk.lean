/- Merged: LawStr TrMark TrMarkT LawRow. -/
import Derived.Test.YtbfkkaafkinpmaaGreatDoorRows
import Derived.Test.YtbfkkaafkinpmaaGreatDoorBase
import Derived.Test.YtbfkkaafkinpmaaGreatDoorGLaw
import Derived.ProofKit
import Derived.OpenShut
import Derived.Test.YtbfkkaafkinpmaaGreatDoorGTree
namespace Go.Proofs.YtbfkkaafkinpmaaGreatDoor.lawStr
open Go.ChangeShapes Go.WideShapes Go.ChangeAt Go.RowKit
set_option linter.unusedVariables false

/-- The digits of m in front of acc (f: fuel). -/
def dg : Nat → Nat → List UInt8 → List UInt8
  | 0, _, acc => acc
  | f + 1, m, acc => if m = 0 then acc else dg f (m / 10) (UInt8.ofNat (48 + m % 10) :: acc)
theorem dg_zero (f : Nat) (acc : List UInt8) : dg f 0 acc = acc := by cases f <;> simp [dg]
/-- The law's mark of number m. -/
def mt (m : Int) : ByteArray := if m ≤ 0 then ⟨#[109, 48]⟩ else ⟨(109 :: dg m.toNat m.toNat []).toArray⟩
theorem mt_lo {m : Int} (h : m ≤ 0) : mt m = ⟨#[109, 48]⟩ := by unfold mt; rw [if_pos h]
theorem mt_hi {m : Int} (h : ¬ m ≤ 0) : mt m = ⟨(109 :: dg m.toNat m.toNat []).toArray⟩ := by unfold mt; rw [if_neg h]

theorem mark_text (m : Int) (w : World) (hm : m ≤ 4611686018427387904) :
    Calls Tryz.prog 26 #[.int .i64 m] w fun e w' => e = .returned (.string (mt m)) ∧ Below w.heap.size w w' := by
  by_cases h0 : m ≤ 0
  · have He := Lib.hid (mt_lo h0)
    go_enter Tryz.func26, Tryz.ntmps26
    go_wp2_with fail
    go_ret
    exact ⟨by rw [He.out]; rfl, Below.refl _ _⟩
  · have He := Lib.hid (mt_hi h0)
    obtain ⟨n0, rfl⟩ := Int.eq_ofNat_of_zero_le (show 0 ≤ m by omega)
    have hn0 : 0 < n0 := by omega
    clear h0
    go_enter Tryz.func26, Tryz.ntmps26
    go_wp2_with fail
    go_loopw [0, 3] (fun a s wr => ∃ (n f : Nat) (acc : List UInt8), n ≤ f ∧ a = .int .i64 n ∧ s = .string ⟨acc.toArray⟩ ∧ acc.length + n ≤ n0 ∧ Hid (dg f n acc = dg n0 n0 []) ∧ Below w.heap.size w wr) (fun a _ _ => (intOf a).toNat)
    case atStart => exact ⟨n0, n0, [], Nat.le_refl _, rfl, rfl, by simp, rfl, Below.refl _ _⟩
    case round =>
      obtain ⟨n, f, acc, hf, rfl, rfl, hlen, hd, hbel⟩ := hrel
      by_cases hpos : 0 < n
      · have e1 : ((n : Int) % 10) = ((n % 10 : Nat) : Int) := by omega
        have hconv := run_convert_own (P := Tryz.prog) (wr.alloc (.cells #[.int .u8 (48 + (n : Int) % 10)] 5)) 45 5 9 Tryz.underlying45 Tryz.underlying5 Tryz.underlying9 wr.heap.size (.slice (some ⟨wr.heap.size, 0, none⟩) 1 1) [UInt8.ofNat (48 + n % 10)] (by
          have h := World.ownsRow_lit (size := 1) (base := wr.heap.size) (e := 5) wr #[.int .u8 (48 + (n : Int) % 10)] 1 (Nat.le_refl _) (by simp [maxLen]) rfl
          have hv : bcells [UInt8.ofNat (48 + n % 10)] = [.int .u8 (48 + (n : Int) % 10)] := by simp [bcells]; omega
          unfold OwnB
          rw [hv]
          exact h)
        clear e1
        obtain ⟨f, rfl⟩ : ∃ f', f = f' + 1 := ⟨f - 1, by omega⟩
        have hstep : dg (f + 1) n acc = dg f (n / 10) (UInt8.ofNat (48 + n % 10) :: acc) := by rw [dg, if_neg (by omega)]
        have Hd : Hid (dg f (n / 10) (UInt8.ofNat (48 + n % 10) :: acc) = dg n0 n0 []) := hstep.symm.trans hd.out
        clear hstep hd
        have hbel2 := hbel.alloc hbel.size (.cells #[.int .u8 (48 + (n : Int) % 10)] 5)
        go_wp2_with fail
        go_roundw
        case rel => exact ⟨n / 10, f, UInt8.ofNat (48 + n % 10) :: acc, by omega, by go_num, by refine (congrArg Value.string (bytes_cons _ _)).trans ?_; simp, by simp; omega, Hd, hbel2⟩
        case measure => simp [intOf]; omega
      · obtain rfl : n = 0 := by omega
        rw [dg_zero] at hd
        have h2 : mt (n0 : Int) = ⟨(109 :: acc).toArray⟩ := by rw [He.out]; simp only [Int.toNat_natCast]; rw [hd.out]
        have H2 := Lib.hid h2
        clear h2
        clear He hd
        go_wp2_with fail
        go_ret
        exact ⟨by rw [H2.out]; exact ret_str (bytes_cons _ _), hbel⟩

/-- The marks m, m + 1, .. of n places. -/
def marks (m : Int) (n : Nat) : List ByteArray := (List.range n).map fun (j : Nat) => mt (m + (j : Int))
theorem marks_length (m : Int) (n : Nat) : (marks m n).length = n := by simp [marks]
theorem marks_succ (m : Int) (n : Nat) : marks m (n + 1) = marks m n ++ [mt (m + n)] := by simp [marks, List.range_succ]
theorem marks_get (m : Int) (n k : Nat) (h : k < n) : (scells (marks m n))[k]? = some (.string (mt (m + k))) := by simp [scells, marks, h]

theorem set_step (xs : List Value) (m : Int) (k n : Nat) (hx : xs.length = n) (hk : k < n) :
    (scells (marks m k) ++ xs.drop k).set k (.string (mt (m + k))) = scells (marks m (k + 1)) ++ xs.drop (k + 1) := by
  rw [marks_succ, scells_append, List.append_assoc]
  rw [List.set_append_right _ _ (by simp [scells_length, marks_length])]
  congr 1
  simp only [scells_length, marks_length, Nat.sub_self]
  rw [List.drop_eq_getElem_cons (by omega : k < xs.length), List.set_cons_zero]
  simp [scells]

theorem mark_own {e0 : TypeId} (B g n c : Nat) (m : Int) (xs : List Value) (w : World) (hown : w.ownsRow B e0 1 (.slice (some ⟨g, 0, none⟩) n c) n xs) (h0 : 0 ≤ m) (hm : m + n ≤ 4611686018427387904) :
    Calls Tryz.prog 12 #[.slice (some ⟨g, 0, none⟩) n c, .int .i64 m] w fun e w' =>
      e = .returned (.int .i64 (m + n)) ∧ w'.ownsRow B e0 1 (.slice (some ⟨g, 0, none⟩) n c) n (scells (marks m n)) ∧ w.grownBy w' (some g) := by
  have hxn : xs.length = n := by have := hown.1; omega
  have Hx := Lib.hid hxn
  clear hxn
  go_enter Tryz.func12, Tryz.ntmps12
  go_wp2_with fail
  go_loopw [1, 5] (fun a i wr => ∃ k : Nat, k ≤ n ∧ i = .int .i64 k ∧ a = .int .i64 (m + k) ∧ wr.ownsRow B e0 1 (.slice (some ⟨g, 0, none⟩) n c) n (scells (marks m k) ++ xs.drop k) ∧ w.grownBy wr (some g)) (fun _ i _ => n - (intOf i).toNat)
  case atStart => exact ⟨0, Nat.zero_le _, rfl, by simp, by simpa [marks, scells] using hown, World.grownBy.refl _ _⟩
  case round =>
    clear hown
    obtain ⟨k, hk, rfl, rfl, hown, hgr⟩ := hrel
    by_cases hlt : k < n
    · go_wp2_with fail
      refine (mark_text _ _ (by omega)).mono ?_
      rintro e w1 ⟨rfl, hb1⟩
      have hown1 := hown.kept (grown_of_below hb1 none) (by simp [Value.ownBlock])
      have hgr1 := grown_trans hgr (grown_of_below hb1 (some g))
      have hc := hown1.cellAt k (by omega)
      have hf := hown1.frozenAt k
      have hl : k < (scells (marks m k) ++ xs.drop k).length := by simp [scells_length, marks_length, Hx.out]; omega
      rw [List.getElem?_eq_getElem hl] at hc
      have hst := hown1.stored k (.string (mt (m + k)))
      rw [set_step xs m k n Hx.out hlt] at hst
      have hown2 := hst.1
      have hgr2 := grown_trans hgr1 hst.2
      clear hst hown hown1 hgr hgr1
      generalize (scells (marks m k) ++ xs.drop k)[k] = old at hc
      clear hl
      go_wp2_with fail
      go_roundw
      case rel => exact ⟨k + 1, by omega, by go_num, by go_num, hown2, hgr2⟩
      case measure => simp [intOf]; omega
    · obtain rfl : k = n := by omega
      rw [List.drop_of_length_le (by have := Hx.out; omega), List.append_nil] at hown
      go_wp2_with fail
      go_ret
      exact ⟨rfl, hown, hgr⟩

theorem mark_nil (m : Int) (w : World) (h0 : 0 ≤ m) (hm : m ≤ 4611686018427387904) :
    Calls Tryz.prog 12 #[.slice none 0 0, .int .i64 m] w fun e w' => e = .returned (.int .i64 m) ∧ w = w' := by
  go_enter Tryz.func12, Tryz.ntmps12
  go_wp2_with fail
  refine wp_loop_rounds 1 ?_
  rw [rounds_succ]
  go_wp2_with fail
  go_ret
  exact ⟨rfl, rfl⟩

theorem mark_any {e0 : TypeId} (B n : Nat) (v : Value) (m : Int) (xs : List Value) (w : World) (hown : w.ownsRow B e0 1 v n xs) (h0 : 0 ≤ m) (hm : m + n ≤ 4611686018427387904) :
    Calls Tryz.prog 12 #[v, .int .i64 m] w fun e w' =>
      e = .returned (.int .i64 (m + n)) ∧ w'.ownsRow B e0 1 v n (scells (marks m n)) ∧ w.grownBy w' v.ownBlock := by
  have hown' := hown
  rcases hown.2 with ⟨rfl, rfl⟩ | ⟨g, cap, cur, rfl, hb, hg, hnc, hcm, hcs, htake⟩
  · refine (mark_nil m w h0 (by omega)).mono ?_
    rintro e w' ⟨rfl, rfl⟩
    exact ⟨ret_int (by simp), World.ownsRow_nil _ _ _ _, World.grownBy.refl _ _⟩
  · exact mark_own B g n cap m xs w hown' h0 hm

theorem held_yes (A : Option Addr) (n c : Nat) (m : Int) (w : World) (hr : Rd w A n (scells (marks m n))) (h0 : 0 ≤ m) (hm : m + n ≤ 4611686018427387904) :
    Calls Tryz.prog 13 #[.slice A n c, .int .i64 m] w fun e w' => e = .returned (.int .i64 (m + n)) ∧ Below w.heap.size w w' := by
  have Hr := Lib.hid hr
  clear hr
  go_enter Tryz.func13, Tryz.ntmps13
  go_wp2_with fail
  go_loopw [1, 5] (fun a i wr => ∃ k : Nat, k ≤ n ∧ i = .int .i64 k ∧ a = .int .i64 (m + k) ∧ Below w.heap.size w wr) (fun _ i _ => n - (intOf i).toNat)
  case atStart => exact ⟨0, Nat.zero_le _, rfl, by simp, Below.refl _ _⟩
  case round =>
    obtain ⟨k, hk, rfl, rfl, hbel⟩ := hrel
    by_cases hlt : k < n
    · obtain ⟨g, o, rfl, hg, hc0⟩ := Hr.out.2 (by omega)
      have hc1 := hc0 k hlt _ (marks_get m n k hlt)
      have hc : wr.cell? ⟨g, o + k, none⟩ = some (.string (mt (m + k))) := (hbel.cell (p := ⟨g, o + k, none⟩) hg).trans hc1
      have hgs : g < wr.heap.size := Nat.lt_of_lt_of_le hg hbel.size
      clear hc0 hc1
      go_wp2_with fail
      go_region_law (go_simp; go_at_call 26; refine (mark_text _ _ (by omega)).mono ?_; rintro e w1 ⟨rfl, hb1⟩; have hc2 : w1.cell? ⟨g, o + k, none⟩ = some (.string (mt (m + k))) := (hb1.cell (p := ⟨g, o + k, none⟩) hgs).trans hc)
      all_goals
        have hbel2 := hbel.drew.trans (hb1.mono hbel.size)
        go_wp2_with fail
        go_roundw
        case rel => exact ⟨k + 1, by omega, by go_num, by go_num, hbel2⟩
        case measure => simp [intOf]; omega
    · obtain rfl : k = n := by omega
      go_wp2_with fail
      go_ret
      exact ⟨rfl, hbel⟩
end Go.Proofs.YtbfkkaafkinpmaaGreatDoor.lawStr
namespace Go.Proofs.YtbfkkaafkinpmaaGreatDoor.tree
open Go.ChangeShapes Go.WideShapes Go.ChangeAt Go.RowKit
open lawStr
set_option linter.unusedVariables false

mutual
def cost : T → Nat
  | .mk _ _ _ _ ks kids => 4 + ks.length + costs kids
def costs : List T → Nat
  | [] => 0
  | t :: r => cost t + costs r
end
theorem costs_append : ∀ a b : List T, costs (a ++ b) = costs a + costs b
  | [], b => by simp [costs]
  | t :: r, b => by rw [List.cons_append, costs, costs, costs_append r b]; omega
theorem cost_le : ∀ t, cost t ≤ 4 + 5 * weight t := by
  refine T.ind fun k f n s ks kids ih => ?_
  rw [cost, weight]
  have : costs kids ≤ 5 * (kids.length + weights kids) := by
    clear f n s ks k
    induction kids with
    | nil => simp [costs]
    | cons a r ih2 =>
      rw [costs, weights, List.length_cons]
      have h1 := ih a List.mem_cons_self
      have h2 := ih2 (fun x hx => ih x (List.mem_cons_of_mem _ hx))
      omega
  omega
mutual
def markT : T → Int → T
  | .mk _ _ _ _ ks kids, k => .mk k (decide ((k + 1) % 3 = 0)) (k + 2) (lawStr.mt (k + 3)) (marks (k + 4) ks.length) (markTs kids (k + 4 + ks.length))
def markTs : List T → Int → List T
  | [], _ => []
  | t :: r, k => markT t k :: markTs r (k + cost t)
end
theorem markTs_length : ∀ (l : List T) (k : Int), (markTs l k).length = l.length
  | [], _ => rfl
  | t :: r, k => by rw [markTs, List.length_cons, List.length_cons, markTs_length r]
theorem markTs_append : ∀ (a b : List T) (k : Int), markTs (a ++ b) k = markTs a k ++ markTs b (k + costs a)
  | [], b, k => by simp [markTs, costs]
  | t :: r, b, k => by
    rw [List.cons_append, markTs, markTs, markTs_append r b, costs, List.cons_append]
    congr 3
    omega
theorem dg_length : ∀ (f m : Nat) (acc : List UInt8), (dg f m acc).length ≤ f + acc.length
  | 0, m, acc => by simp [dg]
  | f + 1, m, acc => by
    rw [dg]
    split
    · omega
    · have h := dg_length f (m / 10) (UInt8.ofNat (48 + m % 10) :: acc)
      rw [List.length_cons] at h
      omega
theorem mt_size (m : Int) (h : m ≤ 4611686018427387904) : (lawStr.mt m).size ≤ maxLen := by
  unfold lawStr.mt maxLen
  split
  · decide
  · show (109 :: dg m.toNat m.toNat []).toArray.size ≤ _
    rw [List.size_toArray, List.length_cons]
    have := dg_length m.toNat m.toNat []
    simp at this
    omega
theorem wf_of {k : Int} (h0 : -9223372036854775808 ≤ k) (h1 : k ≤ 9223372036854775807) : (Lit.int .i64 k).wf = true := by
  have e1 : IntKind.i64.min = -9223372036854775808 := rfl
  have e2 : IntKind.i64.max = 9223372036854775807 := rfl
  simp [Lit.wf, e1, e2]
  omega
/-- At a depth. -/
def MarkKids (f : Nat) : Prop := ∀ (B : Nat) (v : Value) (kids : List T) (F : List Nat) (k : Int) (w : World), Own w B (f + 1) v (.sl 6 kids.length (rows kids)) F → F.Nodup → 0 ≤ k → k + costs kids ≤ 4611686018427387904 →
  Calls Tryz.prog 25 #[v, .int .i64 k] w fun e w' => e = .returned (.int .i64 (k + costs kids)) ∧ Own w' B (f + 1) v (.sl 6 kids.length (rows (markTs kids k))) F ∧ KeptBut F w w'

theorem mark_kids_nil (f B : Nat) (k : Int) (w : World) (h0 : 0 ≤ k) (hk : k ≤ 4611686018427387904) :
    Calls Tryz.prog 25 #[.slice none 0 0, .int .i64 k] w fun e w' => e = .returned (.int .i64 k) ∧ w' = w := by
  go_enter Tryz.func25, Tryz.ntmps25
  go_wp2_with fail
  refine wp_loop_rounds 1 ?_
  rw [rounds_succ]
  go_wp2_with fail
  go_ret
  exact ⟨rfl, rfl⟩

set_option maxRecDepth 100000 in
set_option maxHeartbeats 8000000 in
theorem mark_kids_step {f : Nat} (hP : ∀ f', f = f' + 1 → MarkKids f') : MarkKids f := by
  intro B v kids F k w hown hnd h0 hk
  have hown' := hown
  obtain ⟨hl, ⟨rfl, hn, rfl⟩ | ⟨g, c, cur, e, Fs, rfl, h1, h2, h3, h4, hz, hF, h5, h6⟩⟩ := hown'
  · have : kids = [] := List.eq_nil_of_length_eq_zero hn
    subst this
    rw [costs] at hk ⊢
    refine (mark_kids_nil f B k w h0 (by omega)).mono ?_
    rintro e w' ⟨rfl, rfl⟩
    exact ⟨by simp, by simpa [markTs] using hown, KeptBut.refl _ _⟩
  have hcm : kids.length ≤ 9223372036854775807 := by unfold maxLen at h2; omega
  clear hl h3 h4 hz hF h5 h6 cur e Fs
  have HP := Lib.hid hP
  have Hown := Lib.hid hown
  clear hown hP
  go_enter Tryz.func25, Tryz.ntmps25
  go_wp2_with fail
  go_loopw [1, 5] (fun a i wr => ∃ (j : Nat), j ≤ kids.length ∧ i = .int .i64 j ∧ a = .int .i64 (k + costs (kids.take j)) ∧ Own wr B (f + 1) (.slice (some ⟨g, 0, none⟩) kids.length c) (.sl 6 kids.length (rows (markTs (kids.take j) k ++ kids.drop j))) F ∧ KeptBut F w wr) (fun _ i _ => kids.length - (intOf i).toNat)
  case atStart => exact ⟨0, Nat.zero_le _, rfl, by simp [costs], by simpa [markTs] using Hown.out, KeptBut.refl _ _⟩
  case round =>
    clear Hown
    obtain ⟨j, hj, rfl, rfl, hown, hkb⟩ := hrel
    by_cases hlt : j < kids.length
    · obtain ⟨kd, fl, nm, s, ks, kk, hx⟩ : ∃ kd fl nm s ks kk, kids[j] = T.mk kd fl nm s ks kk := by
        cases hx : kids[j] with
        | mk kd fl nm s ks kk => exact ⟨kd, fl, nm, s, ks, kk, rfl⟩
      have hdrop : kids.drop j = kids[j] :: kids.drop (j + 1) := List.drop_eq_getElem_cons hlt
      have htake : kids.take (j + 1) = kids.take j ++ [kids[j]] := List.take_succ_eq_append_getElem hlt
      have hall : costs kids = costs (kids.take j) + (costs [kids[j]] + costs (kids.drop (j + 1))) := by
        rw [← costs_append, ← costs_append, List.singleton_append, ← hdrop, List.take_append_drop]
      have hone : costs [kids[j]] = 4 + ks.length + costs kk := by rw [hx]; simp [costs, cost]
      have hnext : costs (kids.take (j + 1)) = costs (kids.take j) + (4 + ks.length + costs kk) := by rw [htake, costs_append, hone]
      have hmark : markTs (kids.take (j + 1)) k ++ kids.drop (j + 1) = markTs (kids.take j) k ++ (markT kids[j] (k + costs (kids.take j)) :: kids.drop (j + 1)) := by
        rw [htake, markTs_append]
        simp [markTs]
      rw [hdrop, rows_append, rows, hx] at hown
      have Hmark := Lib.hid hmark
      rw [hx] at Hmark
      have HL := Lib.hid (show (rows (markTs (kids.take j) k)).length = j * 6 by rw [rows_length, markTs_length, List.length_take]; congr 1; omega)
      have Hnext := Lib.hid hnext
      generalize costs (kids.take j) = C0 at *
      have hkk : k + C0 + 4 + ks.length + costs kk ≤ 4611686018427387904 := by omega
      clear hmark hnext hall hone hx hdrop htake
      obtain ⟨K, hK⟩ : ∃ K, k + C0 = K := ⟨_, rfl⟩
      rw [hK] at hkk Hmark ⊢
      have hK0 : 0 ≤ K := by omega
      have HK := Lib.hid hK
      clear hK
      generalize hLL : rows (markTs (kids.take j) k) = L at *
      generalize hRR : rows (kids.drop (j + 1)) = R at *
      have hown0 : Own wr B (f + 1) (.slice (some ⟨g, 0, none⟩) kids.length c) (.sl 6 kids.length (mid L (row (.mk kd fl nm s ks kk)) R)) F := hown
      clear hown
      cases f with
      | zero =>
        obtain ⟨_, _, _, _, ho, _⟩ := Own.field hown0 hnd HL.out (r := 0) rfl
        exact ho.elim
      | succ f =>
      obtain ⟨o1, b1, ⟨q1, p1⟩, f1⟩ := Own.put (r := 0) (d' := .int .i64 K) (u' := .int .i64 K) hown0 hnd HL.out rfl trivial (fun w' => own_int (wf_of (by omega) (by omega)))
      obtain ⟨o2, b2, ⟨q2, p2⟩, f2⟩ := Own.put (r := 1) (d' := .bool (decide ((K + 1) % 3 = 0))) (u' := .bool ((K + 1) % 3 == 0)) o1 hnd HL.out rfl trivial (fun w' => by rw [show ((K + 1) % 3 == 0) = decide ((K + 1) % 3 = 0) from rfl]; exact own_bool)
      obtain ⟨o3, b3, ⟨q3, p3⟩, f3⟩ := Own.put (r := 2) (d' := .int .i64 (K + 2)) (u' := .int .i64 (K + 2)) o2 hnd HL.out rfl trivial (fun w' => own_int (wf_of (by omega) (by omega)))
      have hkb3 := ((hkb.trans b1).trans b2).trans b3
      simp only [Nat.add_zero] at o1 b1 p1 f1 o2 b2 p2 f2 o3 b3 p3 f3 hkb3
      have Ho3 := Lib.hid o3
      have Hkb3 := Lib.hid hkb3
      have HMT := Lib.hid (fun w => mark_text (K + 3) w (by omega))
      have e3 : (K + 1) + 1 = K + 2 := by omega
      have e4 : (K + 2) + 1 = K + 3 := by omega
      clear hown0 o1 o2 o3 b1 b2 b3 hkb hkb3
      go_wp2_with fail
      refine (HMT.out _).mono ?_
      rintro e w4 ⟨rfl, hb4⟩
      have o4 := Ho3.out.below hb4
      have hkb4 := Hkb3.out.trans (KeptBut.of_below hb4)
      obtain ⟨o5, b5, ⟨q5, p5⟩, f5⟩ := Own.put (r := 3) (d' := .str (lawStr.mt (K + 3))) (u' := .string (lawStr.mt (K + 3))) o4 hnd HL.out rfl trivial (fun w' => own_str (mt_size _ (by omega)))
      have hkb5 := hkb4.trans b5
      obtain ⟨u6, F6, q6, _, o6, hs6, _, _, hd6, back6⟩ := Own.field (r := 4) (d := .sl 1 ks.length (skeys ks)) o5 hnd HL.out rfl
      obtain ⟨e6, r6, _, hF6⟩ := own_strs_row (ks := ks) o6
      have e5 : (K + 3) + 1 = K + 4 := by omega
      have HM := Lib.hid (lawStr.mark_any B ks.length u6 (K + 4) (scells ks) _ r6 (by omega) (by omega))
      have Ho6 := Lib.hid o6
      have Hback6 := Lib.hid back6
      have Hkb5 := Lib.hid hkb5
      have Hs6 := Lib.hid hs6
      have HF6 := Lib.hid hF6
      clear q1 p1 f1 q2 p2 f2 q3 p3 f3 HMT hb4 o4 hkb4 o5 b5 hkb5 o6 hs6 back6 r6 hF6 Ho3 Hkb3
      go_wp2_with fail
      refine HM.out.mono ?_
      rintro e w6 ⟨rfl, r7, g7⟩
      have kb7 := KeptBut.of_row g7 HF6.out
      have o7 := own_strs_again Ho6.out r7 (by rw [marks_length]) (fun x hx => by
        simp only [marks, List.mem_map, List.mem_range] at hx
        obtain ⟨m, hm, rfl⟩ := hx
        exact mt_size _ (by omega)) HF6.out
      have o8 := Hback6.out w6 _ kb7 o7
      have hkb8 := Hkb5.out.trans (kb7.mono Hs6.out)
      obtain ⟨u9, F9, q9, _, o9, hs9, _, _, hd9, back9⟩ := Own.field (r := 5) (d := .sl 6 kk.length (rows kk)) o8 hnd HL.out rfl
      have HPk := Lib.hid (HP.out f rfl B u9 kk F9 (K + 4 + ks.length) w6 o9 hd9 (by omega) (by omega))
      have Hback9 := Lib.hid back9
      have Hkb8 := Lib.hid hkb8
      have Hs9 := Lib.hid hs9
      clear HM r7 g7 kb7 o7 o8 hkb8 o9 hs9 back9 Ho6 Hback6 Hkb5 Hs6 HF6 q5 p5 f5 q6
      go_wp2_with fail
      refine HPk.out.mono ?_
      rintro e w10 ⟨rfl, o10, kb10⟩
      have o11 := Hback9.out w10 _ kb10 o10
      have Hkb11 := Lib.hid (Hkb8.out.trans (kb10.mono Hs9.out))
      have Ho11 : Hid (Own w10 B (f + 1 + 1) (.slice (some ⟨g, 0, none⟩) kids.length c) (.sl 6 kids.length (rows (markTs (kids.take (j + 1)) k ++ kids.drop (j + 1)))) F) := by
        unfold Hid
        rw [Hmark.out, rows_append, rows, hLL, hRR, markT, row, marks_length, markTs_length]
        exact o11
      clear HPk o10 kb10 o11 Hback9 Hkb8 Hs9 q9
      go_wp2_with fail
      go_roundw
      case rel => exact ⟨j + 1, by omega, by go_num, by rw [Hnext.out]; have := HK.out; congr 1; omega, Ho11.out, Hkb11.out⟩
      case measure => simp [intOf]; omega
    · obtain rfl : j = kids.length := by omega
      rw [List.take_of_length_le (Nat.le_refl _), List.drop_of_length_le (Nat.le_refl _), List.append_nil] at hown
      have Hown := Lib.hid hown
      have Hkb := Lib.hid hkb
      clear hown hkb
      rw [List.take_of_length_le (Nat.le_refl _)]
      go_wp2_with fail
      go_ret
      exact ⟨rfl, Hown.out, Hkb.out⟩
theorem mark_kids : ∀ f, MarkKids f
  | 0 => mark_kids_step (fun f' hf => by omega)
  | f + 1 => mark_kids_step (fun f' hf => by obtain rfl : f = f' := by omega
                                             exact mark_kids f)
end Go.Proofs.YtbfkkaafkinpmaaGreatDoor.tree
namespace Go.Proofs.YtbfkkaafkinpmaaGreatDoor.tree
open Go.ChangeShapes Go.WideShapes Go.ChangeAt Go.RowKit
open lawStr
set_option linter.unusedVariables false

/-- What markTree leaves of a tree that was handed in by value. -/
def topT : T → Int → T
  | .mk kd f n s ks kids, k => .mk kd f n s (marks k ks.length) (markTs kids (k + ks.length))
def topCost : T → Nat
  | .mk _ _ _ _ ks kids => ks.length + costs kids
theorem topCost_le (t : T) : topCost t ≤ 5 * weight t + 5 := by
  cases t with
  | mk kd f n s ks kids =>
    have h := cost_le (.mk kd f n s ks kids)
    rw [cost] at h
    rw [topCost]
    omega
theorem mark_tree {B f : Nat} (t : T) (vs : List Value) (F : List Nat) (k : Int) (w : World) (h : OwnS w B f vs (row t) F) (hnd : F.Nodup) (h0 : 0 ≤ k) (hk : k + topCost t ≤ 4611686018427387904) :
    Calls Tryz.prog 11 #[.agg vs.toArray, .int .i64 k] w fun e w' => e = .returned (.int .i64 (k + topCost t)) ∧ OwnS w' B f vs (row (topT t k)) F ∧ KeptBut F w w' := by
  obtain ⟨kd, fl, nm, s, ks, kids⟩ := t
  obtain ⟨v1, v2, F1, F2, rfl, wk, wn, ws, o1, o2, rfl, n1, n2, hd⟩ := owned_tree h hnd
  rw [topCost] at hk ⊢
  cases f with
  | zero => exact o1.elim
  | succ f =>
  have hb0 : Below w.heap.size w (w.alloc (.cells #[.int .i64 kd, .bool fl, .int .i64 nm, .string s, v1, v2] 30)) := (Below.refl _ _).alloc (Nat.le_refl _) _
  have h10 : (w.alloc (.cells #[.int .i64 kd, .bool fl, .int .i64 nm, .string s, v1, v2] 30)).heap[w.heap.size]? = some (.cells #[.int .i64 kd, .bool fl, .int .i64 nm, .string s, v1, v2] 30 (0, 0)) := heap_alloc_new w _
  have p4 := cell_of_row _ _ 4 _ _ _ h10
  have p4' : (w.alloc (.cells #[.int .i64 kd, .bool fl, .int .i64 nm, .string s, v1, v2] 30)).cell? ⟨w.heap.size, 4, none⟩ = some v1 := p4
  clear p4
  have o1' := o1.below hb0
  have o2' := o2.below hb0
  have rg1 := o1.range
  have rg2 := o2.range
  obtain ⟨e6, r6, _, hF6⟩ := own_strs_row (ks := ks) o1'
  have HM := Lib.hid (lawStr.mark_any B ks.length v1 k (scells ks) _ r6 h0 (by omega))
  have H10 := Lib.hid h10
  have Ho1 := Lib.hid o1'
  have Ho2 := Lib.hid o2'
  have Hw := Lib.hid (show (Lit.int .i64 kd).wf = true ∧ (Lit.int .i64 nm).wf = true ∧ s.size ≤ maxLen from ⟨wk, wn, ws⟩)
  have Hd := Lib.hid hd
  have Hb0 := Lib.hid (KeptBut.of_below (F := F1 ++ F2) hb0)
  have Hsz := Lib.hid (show w.heap.size < (w.alloc (.cells #[.int .i64 kd, .bool fl, .int .i64 nm, .string s, v1, v2] 30)).heap.size from heap_lt h10)
  have HF6 := Lib.hid hF6
  have Hr1 := Lib.hid rg1
  have Hr2 := Lib.hid rg2
  clear h hnd o1 o2 o1' o2' r6 h10 wk wn ws hd hb0 hF6 rg1 rg2
  go_enter Tryz.func11, Tryz.ntmps11
  go_wp2_with fail
  refine HM.out.mono ?_
  rintro e w2 ⟨rfl, r7, g7⟩
  have kb7 := KeptBut.of_row g7 HF6.out
  have o7 := own_strs_again Ho1.out r7 (by rw [marks_length]) (fun x hx => by
    simp only [marks, List.mem_map, List.mem_range] at hx
    obtain ⟨m, hm, rfl⟩ := hx
    exact mt_size _ (by omega)) HF6.out
  have o8 := Ho2.out.but kb7 (fun x hx hy => Hd.out x hy hx)
  have p5 : w2.cell? ⟨w.heap.size, 5, none⟩ = some v2 := by
    rw [cell_of_row w2 w.heap.size 5 _ _ _ ((kb7.block w.heap.size Hsz.out (fun hx => by have := (Hr1.out _ hx).2; omega)).trans H10.out)]
    rfl
  have HP := Lib.hid (mark_kids f B v2 kids F2 (k + ks.length) w2 o8 n2 (by omega) (by omega))
  have Ho7 := Lib.hid o7
  have Hkb7 := Lib.hid (Hb0.out.trans (kb7.mono (fun x hx => List.mem_append_left _ hx)))
  clear HM r7 g7 kb7 o7 o8 Ho1 Ho2 H10 Hb0 p4'
  go_wp2_with fail
  refine HP.out.mono ?_
  rintro e w3 ⟨rfl, o9, kb9⟩
  have Ho10 := Lib.hid (Ho7.out.but kb9 (fun x hx hy => Hd.out x hx hy))
  have Ho9 := Lib.hid o9
  have Hkb9 := Lib.hid (Hkb7.out.trans (kb9.mono (fun x hx => List.mem_append_right _ hx)))
  clear HP o9 kb9 Ho7 Hkb7 p5
  go_wp2_with fail
  go_ret
  refine ⟨ret_int (by simp; omega), ?_, Hkb9.out⟩
  rw [topT, row, marks_length, markTs_length]
  have h := OwnS.cons (own_int (w := w3) (B := B) (f := f) Hw.out.1) (OwnS.cons (own_bool (b := fl)) (OwnS.cons (own_int Hw.out.2.1) (OwnS.cons (own_str Hw.out.2.2) (OwnS.cons Ho10.out (OwnS.cons Ho9.out OwnS.nil)))))
  simpa [skeys] using h

end Go.Proofs.YtbfkkaafkinpmaaGreatDoor.tree
namespace Go.Proofs.YtbfkkaafkinpmaaGreatDoor.ind
open Go.ChangeShapes Go.WideShapes Go.ChangeAt Go.RowKit
set_option linter.unusedVariables false

theorem own_butF {w w' : World} {B size n : Nat} {e : TypeId} {v : Value} {xs : List Value} {F : List Nat} (h : w.ownsRow B e size v n xs) (hk : KeptBut F w w') (hF : ∀ y, v.ownBlock = some y → y ∈ F → False) : w'.ownsRow B e size v n xs := by
  refine ⟨h.1, ?_⟩
  rcases h.2 with h6 | ⟨k, cap, cur, rfl, k2, k3, k4⟩
  · exact .inl h6
  · exact .inr ⟨k, cap, cur, rfl, k2, (hk.block k (heap_lt k3) (fun e => hF k rfl e)).trans k3, k4⟩
theorem own_grown {w w' : World} {B size n : Nat} {e : TypeId} {v x : Value} {xs : List Value} (h : w.ownsRow B e size v n xs) (hg : w.grownBy w' x.ownBlock) (hF : ∀ y, v.ownBlock = some y → x.ownBlock = some y → False) : w'.ownsRow B e size v n xs := by
  refine h.kept hg ?_
  cases hv : v.ownBlock with
  | none => exact .inl rfl
  | some y => exact .inr (fun e => hF y hv e.symm)
theorem eq_rows (A A' : Option Addr) (c c' B B' : Nat) (L : List ByteArray) (w : World) (hn : L.length ≤ 300) (h1 : w.ownsRow B 9 1 (.slice A L.length c) L.length (scells L)) (h2 : w.ownsRow B' 9 1 (.slice A' L.length c') L.length (scells L)) :
    Calls Tryz.prog 9 #[.slice A L.length c, .slice A' L.length c'] w fun e w' => e = .returned (.bool true) ∧ Below w.heap.size w w' := by
  obtain ⟨A1, c1, hA1, _, _, hr1⟩ := Rd.of_own h1
  obtain ⟨A2, c2, hA2, _, _, hr2⟩ := Rd.of_own h2
  injection hA1 with e1 _ _
  injection hA2 with e2 _ _
  subst e1 e2
  refine (lawStr.eq_yes _ _ _ _ _ L _ (by unfold maxLen; omega) rfl hr1 hr2).mono ?_
  rintro e w' ⟨rfl, q, rfl⟩
  exact ⟨rfl, below_drewN (Below.refl _ _) q⟩
theorem held_rows (A : Option Addr) (c B n : Nat) (w : World) (hn : n ≤ 300) (h1 : w.ownsRow B 9 1 (.slice A n c) n (scells (lawStr.marks 1 n))) :
    Calls Tryz.prog 13 #[.slice A n c, .int .i64 1] w fun e w' => e = .returned (.int .i64 (1 + n)) ∧ Below w.heap.size w w' := by
  obtain ⟨A1, c1, hA1, _, _, hr1⟩ := Rd.of_own h1
  injection hA1 with e1 _ _
  subst e1
  exact lawStr.held_yes _ _ _ _ _ hr1 (by decide) (by omega)
end Go.Proofs.YtbfkkaafkinpmaaGreatDoor.ind
