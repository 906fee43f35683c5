/- Merged: FlTolerance TolM TolS OksToleranceS InToleranceI SzTolerance SzToleranceS ToTolerance ToToleranceS EqTolerance EqToleranceS. -/
import Derived.Test.YtdgedclpaplgoaaDoorGA12
import Derived.Test.YtdgedclpaplgoaaDoorGA5
import Derived.Test.YtdgedclpaplgoaaDoorGA6
import Derived.Test.YtdgedclpaplgoaaDoorGA1
import Derived.Test.YtdgedclpaplgoaaDoorGA0
import Derived.Laws.Cover1
import Derived.Test.YtdgedclpaplgoaaDoorRows
import Derived.ProofKit
import Derived.Deep.WholeRow
import Derived.OpenShut
import Derived.OwnWalk
namespace Go.Proofs.YtdgedclpaplgoaaDoor.ty
open Go Go.RowKit
set_option linter.unusedVariables false

def Tolerance.cells (x : Tolerance) : List Value := [.string x.key, .bool x.equal, .string x.value, .int .i64 x.effect]
theorem Tolerance.cells_len (x : Tolerance) : x.cells.length = 4 := rfl
theorem Tolerance.cells_one (x : Tolerance) : ∀ u ∈ x.cells, u.oneCell' = true := by intro u hu; simp [Tolerance.cells] at hu; rcases hu with rfl | rfl | rfl | rfl <;> rfl
theorem Tolerance.cells_all (x : Tolerance) : (#[.string x.key, .bool x.equal, .string x.value, .int .i64 x.effect] : Array Value).all (·.oneCell') = true := by simp [Value.oneCell']
theorem rdk_Tolerance {w : World} {f : Nat} {A : Option Addr} {l : List Tolerance} (h : ElsAt Tolerance.row w f A l 4) : RdK w A l.length 4 (l.flatMap Tolerance.cells) ∧ ∀ x ∈ l, x.Wf := flt.rdk_of_els Tolerance.cells_len (by decide) (fun _ _ _ _ h => Tolerance.opened h) h
theorem own_Tolerance {w : World} {B : Nat} {e : TypeId} {v : Value} {l : List Tolerance} (h : w.ownsRow B e 4 v l.length (l.flatMap Tolerance.cells)) (hw : ∀ x ∈ l, x.Wf) : ∃ F, Own w B 2 v (.sl 4 l.length (l.flatMap Tolerance.row)) F ∧ F.Nodup ∧ ∀ x ∈ F, B ≤ x ∧ x < w.heap.size := flt.own_vals Tolerance.row_length (fun _ h => Tolerance.owned h) h hw
instance inhFlTolerance : Inhabited Tolerance := ⟨⟨⟨#[]⟩, false, ⟨#[]⟩, 0⟩⟩
end Go.Proofs.YtdgedclpaplgoaaDoor.ty
namespace Go.Proofs.YtdgedclpaplgoaaDoor.taint
open Go Go.RowKit ty lab
set_option linter.unusedVariables false

/-- What is asked of the key and the value. -/
def TolK (k : ByteArray) (q : Bool) (a : ByteArray) : Prop := (q = true ∧ KeyP k ∧ ValP a) ∨ (q = false ∧ a.size = 0 ∧ (k.size = 0 ∨ KeyP k))
theorem tol_iff (x : Tolerance) : TolP x ↔ (0 ≤ x.effect ∧ x.effect ≤ 2) ∧ TolK x.key x.equal x.value := by
  constructor
  · intro h
    refine ⟨⟨h.lo, h.hi⟩, ?_⟩
    cases hq : x.equal with
    | true => exact .inl ⟨rfl, h.eq hq⟩
    | false => exact .inr ⟨rfl, h.free hq⟩
  · rintro ⟨⟨h1, h2⟩, h⟩
    refine ⟨h1, h2, fun hq => ?_, fun hq => ?_⟩
    · rcases h with ⟨h, _⟩ | ⟨_, h⟩
      · rw [hq] at h; cases h
      · exact h
    · rcases h with ⟨_, h⟩ | ⟨h, _⟩
      · exact h
      · rw [hq] at h; cases h
theorem empty_is {a : ByteArray} (h : a.size = 0) : a = ⟨#[]⟩ := by
  apply ByteArray.ext
  exact Array.eq_empty_of_size_eq_zero h
theorem empty_yes {a : ByteArray} (h : a.size = 0) : (a.toList == []) = true := by
  have : a.toList.length = 0 := by rw [ByteArray.toList_eq, Array.length_toList]; exact h
  rw [List.eq_nil_of_length_eq_zero this]; rfl
theorem empty_no {a : ByteArray} (h : ¬ a.size = 0) : (a.toList == []) = false := by
  rw [beq_eq_false_iff_ne]
  intro e
  apply h
  have h2 : a.toList.length = a.size := by rw [ByteArray.toList_eq, Array.length_toList]; rfl
  rw [← h2, e]; rfl
theorem val_empty : ValP ⟨#[]⟩ := .inl rfl
theorem tolK_eq (k a : ByteArray) : yes (TolK k true a) = (yes (KeyP k) && yes (ValP a)) := by
  by_cases h1 : KeyP k
  · by_cases h2 : ValP a
    · rw [yes_t h1, yes_t h2, yes_t (.inl ⟨rfl, h1, h2⟩)]; rfl
    · rw [yes_t h1, yes_f h2, yes_f]
      · rfl
      · rintro (⟨_, h⟩ | ⟨h, _⟩)
        · exact h2 h.2
        · cases h
  · rw [yes_f h1, yes_f]
    · rfl
    · rintro (⟨_, h⟩ | ⟨h, _⟩)
      · exact h1 h.1
      · cases h
end Go.Proofs.YtdgedclpaplgoaaDoor.taint
namespace Go.Proofs.YtdgedclpaplgoaaDoor.taint
open Go.ChangeShapes Go.WideShapes Go.ChangeAt Go.RowKit ty lab need
set_option linter.unusedVariables false

set_option maxRecDepth 100000 in
set_option maxHeartbeats 8000000 in
theorem spec_tol (x : Tolerance) (w : World) (hz : x.wt ≤ 1048576) :
    Calls Tryd.prog 97 #[.agg #[.string x.key, .bool x.equal, .string x.value, .int .i64 x.effect]] w fun e w' => e = .returned (.bool (yes (TolP x))) ∧ Below w.heap.size w w' := by
  unfold Tolerance.wt at hz
  obtain ⟨k, q, a, n⟩ := x
  simp only at *
  rw [show yes (TolP ⟨k, q, a, n⟩) = yes ((0 ≤ n ∧ n ≤ 2) ∧ TolK k q a) from by congr 1; exact propext (tol_iff ⟨k, q, a, n⟩)]
  have HK := Lib.hid (fun w' => spec_key k w' (by omega))
  have HV := Lib.hid (fun w' => spec_val a w' (by omega))
  have HI := Lib.hid (fun w' => in_call n w' 0 2)
  have Hb0 := Lib.hid (fun (o : Obj) n => below_drewN ((Below.refl w.heap.size w).alloc (Nat.le_refl _) o) n)
  clear hz
  by_cases hn : 0 ≤ n ∧ n ≤ 2
  case neg =>
    have Hf := Lib.hid (yes_f (p := (0 ≤ n ∧ n ≤ 2) ∧ TolK k q a) (fun h => hn h.1))
    rw [yes_f hn] at HI
    clear hn HK HV
    go_enter Tryd.func97, Tryd.ntmps97
    go_wp2_with fail
    refine (HI.out _).mono ?_
    rintro e w1 ⟨rfl, rfl⟩
    go_wp2_with fail
    go_ret
    exact ⟨by rw [Hf.out]; rfl, Hb0.out _ 0⟩
  rw [yes_t hn] at HI
  have HT : Hid (yes ((0 ≤ n ∧ n ≤ 2) ∧ TolK k q a) = yes (TolK k q a)) := by
    unfold Hid
    congr 1
    exact propext ⟨fun h => h.2, fun h => ⟨hn, h⟩⟩
  rw [HT.out]
  clear HT hn
  cases q with
  | true =>
    rw [tolK_eq]
    generalize yes (ValP a) = b2 at HV ⊢
    by_cases hk : KeyP k
    · rw [yes_t hk] at HK ⊢
      clear hk
      go_enter Tryd.func97, Tryd.ntmps97
      go_wp2_with fail
      refine (HI.out _).mono ?_
      rintro e w1 ⟨rfl, rfl⟩
      go_wp2_with fail
      refine (HK.out _).mono ?_
      rintro e w1 ⟨rfl, n1, rfl⟩
      go_wp2_with fail
      refine (HV.out _).mono ?_
      rintro e w1 ⟨rfl, n2, rfl⟩
      go_wp2_with fail
      go_ret
      exact ⟨by cases b2 <;> rfl, by simpa using Hb0.out _ _⟩
    · rw [yes_f hk] at HK ⊢
      clear hk HV
      go_enter Tryd.func97, Tryd.ntmps97
      go_wp2_with fail
      refine (HI.out _).mono ?_
      rintro e w1 ⟨rfl, rfl⟩
      go_wp2_with fail
      refine (HK.out _).mono ?_
      rintro e w1 ⟨rfl, n1, rfl⟩
      go_wp2_with fail
      go_ret
      exact ⟨by cases b2 <;> rfl, Hb0.out _ _⟩
  | false =>
    clear HV
    by_cases ha : a.size = 0
    case neg =>
      have Hf := Lib.hid (yes_f (p := TolK k false a) (fun h => by
        rcases h with ⟨h, _⟩ | ⟨_, h, _⟩
        · cases h
        · exact ha h))
      have e1 := empty_no ha
      clear ha HK
      go_enter Tryd.func97, Tryd.ntmps97
      go_wp2_with fail
      refine (HI.out _).mono ?_
      rintro e w1 ⟨rfl, rfl⟩
      go_wp2_with fail
      go_ret
      exact ⟨by rw [Hf.out]; rfl, Hb0.out _ 0⟩
    have e1 := empty_yes ha
    by_cases hk : k.size = 0
    · have Hf := Lib.hid (yes_t (p := TolK k false a) (.inr ⟨rfl, ha, .inl hk⟩))
      have e2 := empty_yes hk
      clear ha hk HK
      go_enter Tryd.func97, Tryd.ntmps97
      go_wp2_with fail
      refine (HI.out _).mono ?_
      rintro e w1 ⟨rfl, rfl⟩
      go_wp2_with fail
      go_ret
      exact ⟨by rw [Hf.out]; rfl, Hb0.out _ 0⟩
    have e2 := empty_no hk
    have Hf : Hid (yes (TolK k false a) = yes (KeyP k)) := by
      unfold Hid
      congr 1
      refine propext ⟨fun h => ?_, fun h => .inr ⟨rfl, ha, .inr h⟩⟩
      rcases h with ⟨h, _⟩ | ⟨_, _, h⟩
      · cases h
      · exact h.resolve_left hk
    rw [Hf.out]
    clear Hf ha hk
    generalize yes (KeyP k) = R at HK ⊢
    go_enter Tryd.func97, Tryd.ntmps97
    go_wp2_with fail
    refine (HI.out _).mono ?_
    rintro e w1 ⟨rfl, rfl⟩
    go_wp2_with fail
    refine (HK.out _).mono ?_
    rintro e w1 ⟨rfl, n1, rfl⟩
    go_wp2_with fail
    go_ret
    exact ⟨rfl, Hb0.out _ _⟩
theorem befT_key {a b : Tolerance} (h : ¬ a.key = b.key) : befT a b = lessB a.key b.key := by unfold befT; rw [if_neg h]
theorem befT_eq {a b : Tolerance} (h : a.key = b.key) (h2 : ¬ a.equal = b.equal) : befT a b = b.equal := by unfold befT befE; rw [if_pos h, if_neg h2]
theorem befT_val {a b : Tolerance} (h : a.key = b.key) (h2 : a.equal = b.equal) (h3 : ¬ a.value = b.value) : befT a b = lessB a.value b.value := by unfold befT befE befV; rw [if_pos h, if_pos h2, if_neg h3]
theorem befT_eff {a b : Tolerance} (h : a.key = b.key) (h2 : a.equal = b.equal) (h3 : a.value = b.value) : befT a b = decide (a.effect < b.effect) := by unfold befT befE befV; rw [if_pos h, if_pos h2, if_pos h3]
set_option maxRecDepth 100000 in
set_option maxHeartbeats 16000000 in
theorem spec_befT (x y : Tolerance) (w : World) :
    Calls Tryd.prog 63 #[.agg #[.string x.key, .bool x.equal, .string x.value, .int .i64 x.effect], .agg #[.string y.key, .bool y.equal, .string y.value, .int .i64 y.effect]] w fun e w' => e = .returned (.bool (befT x y)) ∧ Below w.heap.size w w' := by
  obtain ⟨R, hR⟩ : ∃ R, befT x y = R := ⟨_, rfl⟩
  rw [hR]
  have Hk : Hid (¬ x.key = y.key → R = lessB x.key y.key) := fun h => by rw [← hR]; exact befT_key h
  have Hq : Hid (x.key = y.key → ¬ x.equal = y.equal → R = y.equal) := fun h h2 => by rw [← hR]; exact befT_eq h h2
  have Hv : Hid (x.key = y.key → x.equal = y.equal → ¬ x.value = y.value → R = lessB x.value y.value) := fun h h2 h3 => by rw [← hR]; exact befT_val h h2 h3
  have He : Hid (x.key = y.key → x.equal = y.equal → x.value = y.value → R = decide (x.effect < y.effect)) := fun h h2 h3 => by rw [← hR]; exact befT_eff h h2 h3
  obtain ⟨k1, q1, v1, n1⟩ := x
  obtain ⟨k2, q2, v2, n2⟩ := y
  simp only at *
  have Hb := Lib.hid (fun a b : Obj => ((Below.refl w.heap.size w).alloc (Nat.le_refl _) a).alloc (by simp) b)
  clear hR
  by_cases hk : k1 = k2
  case neg =>
    have Hf := Lib.hid (Hk.out hk)
    have hs := same_no hk
    unfold lessB at Hf
    clear hk Hk Hv He Hq
    go_enter Tryd.func63, Tryd.ntmps63
    go_wp2_with fail
    go_ret
    exact ⟨by rw [Hf.out]; rfl, Hb.out _ _⟩
  have hs := same_yes hk
  by_cases hq : q1 = q2
  case neg =>
    have Hf := Lib.hid (Hq.out hk hq)
    clear hk Hk Hv He Hq
    cases q1 <;> cases q2 <;> first
      | exact absurd rfl hq
      | (clear hq
         go_enter Tryd.func63, Tryd.ntmps63
         go_wp2_with fail
         go_ret
         exact ⟨by rw [Hf.out]; rfl, Hb.out _ _⟩)
  subst hq
  clear Hq Hk
  cases q1 <;>
  · by_cases hv : v1 = v2
    case neg =>
      have Hf := Lib.hid (Hv.out hk rfl hv)
      have ht := same_no hv
      unfold lessB at Hf
      clear hk hv Hv He
      go_enter Tryd.func63, Tryd.ntmps63
      go_wp2_with fail
      go_ret
      exact ⟨by rw [Hf.out]; rfl, Hb.out _ _⟩
    have ht := same_yes hv
    have Hf := Lib.hid (He.out hk rfl hv)
    clear hk hv Hv He
    go_enter Tryd.func63, Tryd.ntmps63
    go_wp2_with fail
    go_ret
    exact ⟨by rw [Hf.out]; rfl, Hb.out _ _⟩
end Go.Proofs.YtdgedclpaplgoaaDoor.taint
namespace Go.Proofs.YtdgedclpaplgoaaDoor.taint
open Go.ChangeShapes Go.WideShapes Go.ChangeAt Go.RowKit ty lab dedup need
set_option linter.unusedVariables false

set_option maxRecDepth 100000 in
set_option maxHeartbeats 16000000 in
theorem spec_oksTolerance (l : List Tolerance) (f : Nat) (v : Value) (w : World) (h : Lies w f v (.sl 4 l.length (l.flatMap Tolerance.row))) (hz : wsum Tolerance.wt l ≤ 1048576) :
    Calls Tryd.prog 64 #[v] w fun e w' => e = .returned (.bool (yes (TolsP l))) ∧ Below w.heap.size w w' := by
  obtain ⟨A, c, rfl, hc1, hc2, f', rfl, hk⟩ := els_of Tolerance.row_length h
  unfold maxLen at hc2
  obtain ⟨R, hR⟩ : ∃ R, yes (TolsP l) = R := ⟨_, rfl⟩
  rw [hR]
  have Hno : Hid (¬ TolsP l → R = false) := fun h => by rw [← hR]; exact yes_f h
  have Hyes : Hid (TolsP l → R = true) := fun h => by rw [← hR]; exact yes_t h
  have Hk := Lib.hid hk
  have Hz := Lib.hid (fun j (hj : j < l.length) => Nat.le_trans (wsum_mem Tolerance.wt hj) hz)
  clear h hk hR hz
  by_cases h4 : 4 < l.length
  · have Hf := Lib.hid (Hno.out fun h2 => by have := h2.1; omega)
    go_enter Tryd.func64, Tryd.ntmps64
    go_wp2_with fail
    go_ret
    exact ⟨by rw [Hf.out]; rfl, Below.refl _ _⟩
  have Hmk := Lib.hid (fun h3 => Hyes.out ⟨by omega, h3⟩)
  have Hng := Lib.hid (fun (h3 : ¬ GoodL TolP befT l l.length) => Hno.out (fun h => h3 h.2))
  clear Hno Hyes
  go_enter Tryd.func64, Tryd.ntmps64
  go_wp2_with fail
  go_loopw [3] (fun i wr => ∃ j : Nat, j ≤ l.length ∧ i = .int .i64 j ∧ Hid (GoodL TolP befT l j) ∧ Below w.heap.size w wr) (fun i _ => l.length - (intOf i).toNat)
  case atStart => exact ⟨0, Nat.zero_le _, rfl, fun i hi hj => by omega, Below.refl _ _⟩
  case round =>
    obtain ⟨j, hj, rfl, hgood, hbel⟩ := hrel
    have Hbel := Lib.hid hbel
    by_cases hlt : j < l.length
    · obtain ⟨g, o, rfl, hg, us, hus, hc, hls⟩ := (Hk.out.below hbel).get hlt
      obtain ⟨rfl, hwf⟩ := Tolerance.opened hls
      have q0 : ∀ p : BelowBy wr, p.v.cell? ⟨g, o + j * 4, none⟩ = some (.string l[j].key) := fun p => p.cell hg (hc 0 _ rfl)
      have q1 : ∀ p : BelowBy wr, p.v.cell? ⟨g, o + j * 4 + 1, none⟩ = some (.bool l[j].equal) := fun p => p.cell hg (hc 1 _ rfl)
      have q2 : ∀ p : BelowBy wr, p.v.cell? ⟨g, o + j * 4 + 2, none⟩ = some (.string l[j].value) := fun p => p.cell hg (hc 2 _ rfl)
      have q3 : ∀ p : BelowBy wr, p.v.cell? ⟨g, o + j * 4 + 3, none⟩ = some (.int .i64 l[j].effect) := fun p => p.cell hg (hc 3 _ rfl)
      have HN := Lib.hid (fun p : BelowBy wr => spec_tol l[j] p.v (Hz.out j hlt))
      have HW2 : Hid (∀ p : BelowBy wr, Below w.heap.size w p.v) := fun p => below_link hbel p.h hbel.size
      have hj0 : (0 : Int) ≤ (j : Int) := by omega
      have hjn : (j : Int) < (l.length : Int) := by omega
      by_cases hP : TolP l[j]
      case neg =>
        have Hf := Lib.hid (Hng.out fun h2 => hP (h2 j hlt hlt).1)
        rw [yes_f hP] at HN
        clear hP Hng Hmk hgood hls hus hc hg hwf Hk hbel
        generalize l[j] = x at *
        go_wp2_with fail
        refine wp_region_quiet_below (by kernel_rfl) (by kernel_rfl) ?_
        repeat (refine @wpQuiet_step _ _ _ _ _ _ _ ?_; intro K hK; go_simp; first | (refine hK _ ?_; clear hK K) | (apply Exists.intro; refine ⟨fun _ => ?_, hK _ ?_⟩; (first | (go_at_call 97; exact Calls.below_of (HN.out _))); clear hK K))
        refine wpQuiet_nil ?_
        intro _ hw'
        obtain ⟨p, rfl⟩ := hw'
        go_wp2_with fail
        go_ret
        exact ⟨by rw [Hf.out]; rfl, HW2.out p⟩
      rw [yes_t hP] at HN
      by_cases hz : j = 0
      · have Hg := Lib.hid (goodL_next hgood.out hlt hP (fun m hm => by omega))
        have hn0 : ¬ (0 : Int) < (j : Int) := by omega
        have hn1 : ¬ 0 < j := by omega
        clear hP Hng Hmk hgood hls hus hc hg hwf Hk hz hbel
        generalize l[j] = x at *
        go_wp2_with fail
        refine wp_region_quiet_below (by kernel_rfl) (by kernel_rfl) ?_
        repeat (refine @wpQuiet_step _ _ _ _ _ _ _ ?_; intro K hK; go_simp; first | (refine hK _ ?_; clear hK K) | (apply Exists.intro; refine ⟨fun _ => ?_, hK _ ?_⟩; (first | (go_at_call 97; exact Calls.below_of (HN.out _))); clear hK K))
        refine wpQuiet_nil ?_
        intro _ hw'
        obtain ⟨p, rfl⟩ := hw'
        go_wp2_with fail
        go_roundw
        case rel => exact ⟨j + 1, by omega, by go_num, Hg.out, HW2.out p⟩
        case measure => simp [intOf]; omega
      obtain ⟨m, hm⟩ : ∃ m, m + 1 = j := ⟨j - 1, by omega⟩
      have hml : m < l.length := by omega
      obtain ⟨g', o', hA3, hg2, us2, hus2, hc2', hls2⟩ := (Hk.out.below hbel).get hml
      injection hA3 with hA3
      injection hA3 with e1 e2
      subst e1 e2
      obtain ⟨rfl, _⟩ := Tolerance.opened hls2
      have HC := Lib.hid (fun p : BelowBy wr => spec_befT l[m] l[j] p.v)
      have R0 : ∀ p : BelowBy wr, p.v.cell? ⟨g, o + m * 4, none⟩ = some (.string l[m].key) := fun p => p.cell hg (hc2' 0 _ rfl)
      have R1 : ∀ p : BelowBy wr, p.v.cell? ⟨g, o + m * 4 + 1, none⟩ = some (.bool l[m].equal) := fun p => p.cell hg (hc2' 1 _ rfl)
      have R2 : ∀ p : BelowBy wr, p.v.cell? ⟨g, o + m * 4 + 2, none⟩ = some (.string l[m].value) := fun p => p.cell hg (hc2' 2 _ rfl)
      have R3 : ∀ p : BelowBy wr, p.v.cell? ⟨g, o + m * 4 + 3, none⟩ = some (.int .i64 l[m].effect) := fun p => p.cell hg (hc2' 3 _ rfl)
      have hmi : (j : Int) - 1 = (m : Int) := by omega
      have hwm : IntKind.i64.wrap (m : Int) = (m : Int) := IntWalk.i64_in _ (by omega)
      have hm0 : (0 : Int) ≤ (m : Int) := by omega
      have hm1 : (m : Int) < (l.length : Int) := by omega
      have hjp : (0 : Int) < (j : Int) := by omega
      have hjp1 : 0 < j := by omega
      cases hb : befT l[m] l[j] with
      | true =>
        have Hg := Lib.hid (goodL_next hgood.out hlt hP (fun m' hm' => by obtain rfl : m' = m := by omega
                                                                          exact hb))
        rw [hb] at HC
        clear hP Hng Hmk hgood hls hus hc hg hwf hls2 hus2 hc2' hg2 Hk hz hm hb hbel
        generalize l[j] = x at *
        generalize l[m] = y at *
        go_wp2_with fail
        refine wp_region_quiet_below (by kernel_rfl) (by kernel_rfl) ?_
        repeat (refine @wpQuiet_step _ _ _ _ _ _ _ ?_; intro K hK; go_simp; first | (refine hK _ ?_; clear hK K) | (apply Exists.intro; refine ⟨fun _ => ?_, hK _ ?_⟩; (first | (go_at_call 97; exact Calls.below_of (HN.out _)) | (go_at_call 63; exact Calls.below_of (HC.out _))); clear hK K))
        refine wpQuiet_nil ?_
        intro _ hw'
        obtain ⟨p, rfl⟩ := hw'
        go_wp2_with fail
        go_roundw
        case rel => exact ⟨j + 1, by omega, by go_num, Hg.out, HW2.out p⟩
        case measure => simp [intOf]; omega
      | false =>
        have Hf := Lib.hid (Hng.out fun h2 => by
          have := (h2 j hlt hlt).2 m hm
          rw [hb] at this; cases this)
        rw [hb] at HC
        clear hP Hng Hmk hgood hls hus hc hg hwf hls2 hus2 hc2' hg2 Hk hz hm hb hbel
        generalize l[j] = x at *
        generalize l[m] = y at *
        go_wp2_with fail
        refine wp_region_quiet_below (by kernel_rfl) (by kernel_rfl) ?_
        repeat (refine @wpQuiet_step _ _ _ _ _ _ _ ?_; intro K hK; go_simp; first | (refine hK _ ?_; clear hK K) | (apply Exists.intro; refine ⟨fun _ => ?_, hK _ ?_⟩; (first | (go_at_call 97; exact Calls.below_of (HN.out _)) | (go_at_call 63; exact Calls.below_of (HC.out _))); clear hK K))
        refine wpQuiet_nil ?_
        intro _ hw'
        obtain ⟨p, rfl⟩ := hw'
        go_wp2_with fail
        go_ret
        exact ⟨by rw [Hf.out]; rfl, HW2.out p⟩
    · obtain rfl : j = l.length := by omega
      have Hf := Lib.hid (Hmk.out hgood.out)
      clear hgood hbel
      go_wp2_with fail
      go_ret
      exact ⟨by rw [Hf.out]; rfl, Hbel.out⟩
end Go.Proofs.YtdgedclpaplgoaaDoor.taint
namespace Go.Proofs.YtdgedclpaplgoaaDoor.taint
open Go Go.RowKit
theorem TrydinfITolerance : (Tryd.prog.info? 92).map (fun i => (i.zero, i.size, i.bytes)) = some (some (.agg #[.string ⟨#[]⟩, .bool false, .string ⟨#[]⟩, .int .i64 0]), 4, 48) := by kernel_rfl
end Go.Proofs.YtdgedclpaplgoaaDoor.taint
namespace Go.Proofs.YtdgedclpaplgoaaDoor.ty
open Go.ChangeShapes Go.WideShapes Go.ChangeAt Go.RowKit
set_option linter.unusedVariables false

theorem szTolerance (x : Tolerance) (left : Int) (w : World) (hx : x.Wf) (hl : LeftN left) :
    Calls Tryd.prog 62 #[.agg #[.string x.key, .bool x.equal, .string x.value, .int .i64 x.effect], .int .i64 left] w fun e w' => e = .returned (.int .i64 (cutN left x.wt)) ∧ Below w.heap.size w w' := by
  obtain ⟨a0, a1, a2, a3⟩ := x
  obtain ⟨w0, w2, w3⟩ := hx
  simp only at *
  unfold maxLen at w0 w2
  unfold LeftN at hl
  rw [show Tolerance.wt ⟨a0, a1, a2, a3⟩ = a0.size + a2.size from rfl]
  have Hb := Lib.hid ((Below.refl w.heap.size w).alloc (Nat.le_refl _) (.cells #[.string a0, .bool a1, .string a2, .int .i64 a3] 90))
  by_cases h0 : left < (a0.size : Int)
  · have He := Lib.hid (cutN_no (show left < ((a0.size + a2.size : Nat) : Int) by omega))
    go_enter Tryd.func62, Tryd.ntmps62
    go_wp2_with fail
    go_ret
    exact ⟨by rw [He.out]; rfl, Hb.out⟩
  by_cases h1 : left - a0.size < (a2.size : Int)
  · have He := Lib.hid (cutN_no (show left < ((a0.size + a2.size : Nat) : Int) by omega))
    go_enter Tryd.func62, Tryd.ntmps62
    go_wp2_with fail
    go_ret
    exact ⟨by rw [He.out]; rfl, Hb.out⟩
  have He := Lib.hid (cutN_yes (show ¬ left < ((a0.size + a2.size : Nat) : Int) by omega))
  have He2 := Lib.hid (show left - ((a0.size + a2.size : Nat) : Int) = left - a0.size - a2.size by omega)
  go_enter Tryd.func62, Tryd.ntmps62
  go_wp2_with fail
  go_ret
  exact ⟨by rw [He.out, He2.out]; rfl, Hb.out⟩
end Go.Proofs.YtdgedclpaplgoaaDoor.ty
namespace Go.Proofs.YtdgedclpaplgoaaDoor.ty
open Go.ChangeShapes Go.WideShapes Go.ChangeAt Go.RowKit
set_option linter.unusedVariables false

theorem szToleranceS (l : List Tolerance) (f : Nat) (v : Value) (left : Int) (w : World) (h : Lies w f v (.sl 4 l.length (l.flatMap Tolerance.row))) (hl : LeftN left) :
    Calls Tryd.prog 30 #[v, .int .i64 left] w fun e w' => e = .returned (.int .i64 (cutN left (l.length + wsum Tolerance.wt l))) ∧ Below w.heap.size w w' := by
  obtain ⟨A, c, rfl, hc1, hc2, f', rfl, hk⟩ := els_of Tolerance.row_length h
  unfold maxLen at hc2
  unfold LeftN at hl
  have Hk := Lib.hid hk
  clear h hk
  by_cases h0 : left < l.length
  · have He := Lib.hid (cutN_no (show left < ((l.length + wsum Tolerance.wt l : Nat) : Int) by omega))
    go_enter Tryd.func30, Tryd.ntmps30
    go_wp2_with fail
    go_ret
    exact ⟨by rw [He.out]; rfl, Below.refl _ _⟩
  go_enter Tryd.func30, Tryd.ntmps30
  go_wp2_with fail
  go_loopw [1, 5] (fun a i wr => ∃ (j : Nat) (z : Int), j ≤ l.length ∧ i = .int .i64 j ∧ a = .int .i64 z ∧ 0 ≤ z ∧ z ≤ 1048576 ∧ Hid (z = left - l.length - wsum Tolerance.wt (l.take j)) ∧ Below w.heap.size w wr) (fun _ i _ => l.length - (intOf i).toNat)
  case atStart => exact ⟨0, left - l.length, Nat.zero_le _, rfl, rfl, by omega, by omega, by unfold Hid; simp [wsum], Below.refl _ _⟩
  case round =>
    obtain ⟨j, z, hj, rfl, rfl, hz0, hz1, hin, hbel⟩ := hrel
    by_cases hlt : j < l.length
    · obtain ⟨g, o, rfl, hg, us, hus, hc, hls⟩ := (Hk.out.below hbel).get hlt
      obtain ⟨rfl, hwf⟩ := Tolerance.opened hls
      have q0 : wr.cell? ⟨g, o + j * 4, none⟩ = some (.string l[j].key) := hc 0 _ rfl
      have q1 : wr.cell? ⟨g, o + j * 4 + 1, none⟩ = some (.bool l[j].equal) := hc 1 _ rfl
      have q2 : wr.cell? ⟨g, o + j * 4 + 2, none⟩ = some (.string l[j].value) := hc 2 _ rfl
      have q3 : wr.cell? ⟨g, o + j * 4 + 3, none⟩ = some (.int .i64 l[j].effect) := hc 3 _ rfl
      have HC := Lib.hid (szTolerance l[j] z wr hwf ⟨hz0, hz1⟩)
      have hnext := wsum_take Tolerance.wt hlt
      have hall := wsum_all Tolerance.wt l (j + 1)
      have Hbel := Lib.hid hbel
      clear hls hbel hg hus hc hwf
      by_cases h1 : z < (l[j].wt : Int)
      · have He := Lib.hid (cutN_no (show left < ((l.length + wsum Tolerance.wt l : Nat) : Int) by have := hin.out; omega))
        rw [cutN_no h1] at HC
        clear hnext hall hin h1
        generalize l[j] = x at q0 q1 q2 q3 HC
        go_wp2_with fail
        refine HC.out.mono ?_
        rintro e w1 ⟨rfl, hb1⟩
        have Hbel1 := Lib.hid (Hbel.out.trans (hb1.mono Hbel.out.size))
        clear hb1 q0 q1 q2 q3
        go_wp2_with fail
        go_ret
        exact ⟨by rw [He.out]; rfl, Hbel1.out⟩
      · have Hin := Lib.hid (show z - l[j].wt = left - l.length - wsum Tolerance.wt (l.take (j + 1)) by have := hin.out; omega)
        rw [cutN_yes h1] at HC
        clear hnext hall hin
        generalize l[j] = x at q0 q1 q2 q3 HC h1 Hin
        generalize x.wt = y at HC h1 Hin
        go_wp2_with fail
        refine HC.out.mono ?_
        rintro e w1 ⟨rfl, hb1⟩
        have Hbel1 := Lib.hid (Hbel.out.trans (hb1.mono Hbel.out.size))
        clear hb1 q0 q1 q2 q3
        go_wp2_with fail
        go_roundw
        case rel => exact ⟨j + 1, z - y, by omega, by go_num, rfl, by omega, by omega, Hin.out, Hbel1.out⟩
        case measure => simp [intOf]; omega
    · obtain rfl : j = l.length := by omega
      rw [List.take_of_length_le (Nat.le_refl _)] at hin
      have He := Lib.hid (cutN_yes (show ¬ left < ((l.length + wsum Tolerance.wt l : Nat) : Int) by have := hin.out; omega))
      have Hin := Lib.hid (show left - ((l.length + wsum Tolerance.wt l : Nat) : Int) = z by have := hin.out; omega)
      have Hbel := Lib.hid hbel
      clear hin hbel
      go_wp2_with fail
      go_ret
      exact ⟨by rw [He.out, Hin.out]; rfl, Hbel.out⟩
end Go.Proofs.YtdgedclpaplgoaaDoor.ty
namespace Go.Proofs.YtdgedclpaplgoaaDoor.ty
open Go.ChangeShapes Go.WideShapes Go.ChangeAt Go.RowKit
set_option linter.unusedVariables false

theorem sizeTolerance : (Tryd.prog.info? 92).map (·.size) = some 4 := by kernel_rfl
theorem toTolerance (x : Tolerance) (w : World) (hx : x.Wf) :
    Calls Tryd.prog 65 #[.agg #[.string x.key, .bool x.equal, .string x.value, .int .i64 x.effect]] w fun e w' => e = .returned (.agg #[.string x.key, .bool x.equal, .string x.value, .int .i64 x.effect]) ∧ Below w.heap.size w w' := by
  obtain ⟨a0, a1, a2, a3⟩ := x
  clear hx
  simp only
  have Hb : Hid (∀ (a b c : Obj), Below w.heap.size w (((w.alloc a).alloc b).alloc c)) := fun a b c => (((Below.refl _ _).alloc (Nat.le_refl _) a).alloc (by simp) b).alloc (by simp <;> omega) c
  go_enter Tryd.func65, Tryd.ntmps65
  go_wp2_with fail
  refine bodyPost_ret (v := .agg #[.string a0, .bool a1, .string a2, .int .i64 a3]) ?_ rfl ⟨rfl, Hb.out _ _ _⟩
  have hrow : (((w.alloc (.cells #[.string a0, .bool a1, .string a2, .int .i64 a3] 90)).alloc (.cells #[.string a0, .bool a1, .string a2, .int .i64 a3] 92)).alloc (.cells #[.string a0, .bool a1, .string a2, .int .i64 a3] 92)).heap[w.heap.size + 1]? = some (.cells #[.string a0, .bool a1, .string a2, .int .i64 a3] 92 (0, 0)) := by
    rw [Below.heap_alloc _ _ _ (by simp)]
    have h := heap_alloc_new (w.alloc (.cells #[.string a0, .bool a1, .string a2, .int .i64 a3] 90)) (.cells #[.string a0, .bool a1, .string a2, .int .i64 a3] 92)
    simpa using h
  exact results_cell_row rfl _ _ (w.heap.size + 1) _ #[.string a0, .bool a1, .string a2, .int .i64 a3] (0, 0) _ rfl hrow Tryd.underlying92 rfl sizeTolerance
end Go.Proofs.YtdgedclpaplgoaaDoor.ty
namespace Go.Proofs.YtdgedclpaplgoaaDoor.ty
open Go.ChangeShapes Go.WideShapes Go.ChangeAt Go.RowKit
set_option linter.unusedVariables false

theorem TrydinfoTolerance : (Tryd.prog.info? 92).map (fun i => (i.zero, i.size, i.bytes)) = some (some (.agg #[.string ⟨#[]⟩, .bool false, .string ⟨#[]⟩, .int .i64 0]), 4, 48) := by kernel_rfl
set_option maxRecDepth 100000 in
theorem toToleranceS (l : List Tolerance) (f : Nat) (v : Value) (w : World) (h : Lies w f v (.sl 4 l.length (l.flatMap Tolerance.row))) (hw : l.length ≤ 1048576) :
    Calls Tryd.prog 32 #[v] w fun e w' => ∃ v', e = .returned v' ∧ OwnRow w' w.heap.size 1 92 4 v' l.length (l.flatMap Tolerance.row) ∧ Below w.heap.size w w' := by
  obtain ⟨A, c, rfl, hc1, hc2, f', rfl, hk⟩ := els_of Tolerance.row_length h
  obtain ⟨i0, hi, hz0, hz1, hz2⟩ := info_parts TrydinfoTolerance
  unfold maxLen at hc2
  have Hk := Lib.hid hk
  clear h hk
  go_enter Tryd.func32, Tryd.ntmps32
  go_wp2_with (at_make; refine wpList_make_full _ rfl _ _ 53 rfl w.heap.size 92 i0 _ 4 Tryd.underlying53 hi hz0 hz1 .i64 .i64 (l.length : Int) (l.length : Int) l.length rfl rfl rfl rfl (by rw [hz2]; omega) (by unfold maxLen; omega) (by simp) ?_)
  intro w1 hown1 hg1
  have hb1 : Below w.heap.size w w1 := (Below.refl _ _).grown hg1 (Nat.le_refl _) (fun b hb => by cases hb)
  obtain ⟨xs, hown⟩ : ∃ xs : List Value, w1.ownsRow w.heap.size 92 4 (.slice (some ⟨w.heap.size, 0, none⟩) l.length l.length) l.length xs := ⟨_, hown1⟩
  have Hown := Lib.hid hown
  have Hb1 := Lib.hid hb1
  clear hown1 hown hb1 hg1
  go_wp2_with fail
  go_loopw [4] (fun i wr => ∃ (j : Nat) (xs : List Value) (F : List Nat), j ≤ l.length ∧ i = .int .i64 j ∧ wr.ownsRow w.heap.size 92 4 (.slice (some ⟨w.heap.size, 0, none⟩) l.length l.length) l.length xs ∧
    OwnS wr w.heap.size 1 (xs.take (j * 4)) ((l.take j).flatMap Tolerance.row) F ∧ F.Nodup ∧ (∀ x ∈ F, x ≠ w.heap.size) ∧ Below w.heap.size w wr) (fun i _ => l.length - (intOf i).toNat)
  case atStart => exact ⟨0, xs, [], Nat.zero_le _, rfl, Hown.out, by simpa using OwnS.nil, List.nodup_nil, (fun x hx => by cases hx), Hb1.out⟩
  case round =>
    clear Hown Hb1 xs
    obtain ⟨j, xs, F, hj, rfl, hown, ho, hnd, hne, hbel⟩ := hrel
    by_cases hlt : j < l.length
    · obtain ⟨g, o, rfl, hg, us, hus, hc, hls⟩ := (Hk.out.below hbel).get hlt
      obtain ⟨rfl, hwf⟩ := Tolerance.opened hls
      have q0 : wr.cell? ⟨g, o + j * 4, none⟩ = some (.string l[j].key) := hc 0 _ rfl
      have q1 : wr.cell? ⟨g, o + j * 4 + 1, none⟩ = some (.bool l[j].equal) := hc 1 _ rfl
      have q2 : wr.cell? ⟨g, o + j * 4 + 2, none⟩ = some (.string l[j].value) := hc 2 _ rfl
      have q3 : wr.cell? ⟨g, o + j * 4 + 3, none⟩ = some (.int .i64 l[j].effect) := hc 3 _ rfl
      have hr1 : (l.take (j + 1)).flatMap Tolerance.row = (l.take j).flatMap Tolerance.row ++ l[j].row := by
        rw [List.take_succ_eq_append_getElem hlt, List.flatMap_append]; simp
      have Hr1 := Lib.hid hr1
      have HC := Lib.hid (toTolerance l[j] wr hwf)
      have Hwf := Lib.hid hwf
      have Hown := Lib.hid hown
      have Ho := Lib.hid ho
      have Hbel := Lib.hid hbel
      have hlb : w.heap.size < wr.heap.size := (hown.lt w.heap.size rfl).2
      have Hlb := Lib.hid hlb
      clear hls hg hwf hr1 hown ho hbel hlb hus hc
      generalize l[j] = x at HC Hr1 Hwf q0 q1 q2 q3
      go_wp2_with fail
      refine HC.out.mono ?_
      rintro e w2 ⟨rfl, hb2⟩
      have hown2 := own_below' Hown.out hb2
      have ho2 := Ho.out.below hb2
      obtain ⟨us, hus⟩ : ∃ us : List Value, us = [.string x.key, .bool x.equal, .string x.value, .int .i64 x.effect] := ⟨_, rfl⟩
      have hlen : us.length = 4 := by rw [hus]; rfl
      have hthere := own_there hown2 (j * 4) us.toArray.size (by simp [hlen]; omega)
      have hone : us.toArray.all (·.oneCell') = true := by rw [hus]; simp [Value.oneCell']
      have hsize : (Tryd.prog.info? 92).map (·.size) = some us.toArray.size := by rw [List.size_toArray, hlen]; exact sizeTolerance
      have hoG : OwnS w2 w.heap.size 1 us x.row [] := by rw [hus]; exact Tolerance.owned Hwf.out
      have Hfill := Lib.hid (own_fill hown2 hlt hlen ho2 hnd hne hoG List.nodup_nil (fun y hy hyG => by cases hyG) (fun y hy => by cases hy) rfl)
      have Hbel2 := Lib.hid (Hbel.out.trans (hb2.mono Hbel.out.size))
      have Hus := Lib.hid hus
      clear HC hoG hb2 hown2 ho2 Ho hnd hne Hown Hbel q0 q1 q2 q3
      rw [show (Value.agg #[.string x.key, .bool x.equal, .string x.value, .int .i64 x.effect]) = .agg us.toArray by rw [hus]]
      clear hus
      go_wp2_with (first | (refine Go.wpList_store_mid rfl 92 _ _ rfl w.heap.size (j * 4) us.toArray rfl rfl hthere hsize hone ?_) | fail)
      have hf := Hfill.out
      rw [← Hr1.out] at hf
      have hbel3 : Below w.heap.size w (w2.setCells w.heap.size (j * 4) us) := Hbel2.out.grown hf.2.2.2.2 Hbel2.out.size (fun b hb => by injection hb with hb; omega)
      have HF := Lib.hid hf
      have Hbel3 := Lib.hid hbel3
      clear hf hbel3 Hfill hthere hone hsize
      go_wp2_with fail
      go_roundw
      case rel => exact ⟨j + 1, _, _, by omega, by go_num, HF.out.1, HF.out.2.1, HF.out.2.2.1, HF.out.2.2.2.1, Hbel3.out⟩
      case measure => simp [intOf]; omega
    · obtain rfl : j = l.length := by omega
      rw [List.take_of_length_le (Nat.le_refl _)] at ho
      have HR := Lib.hid (own_filled hown (by rw [flat_length' Tolerance.row_length]) ho hnd hne)
      have Hbel := Lib.hid hbel
      clear hown ho hbel
      go_wp2_with fail
      go_ret
      exact ⟨_, rfl, HR.out, Hbel.out⟩
end Go.Proofs.YtdgedclpaplgoaaDoor.ty
namespace Go.Proofs.YtdgedclpaplgoaaDoor.ty
open Go.ChangeShapes Go.WideShapes Go.ChangeAt Go.RowKit
set_option linter.unusedVariables false

theorem eqTolerance (x : Tolerance) (w : World) :
    Calls Tryd.prog 69 #[.agg #[.string x.key, .bool x.equal, .string x.value, .int .i64 x.effect], .agg #[.string x.key, .bool x.equal, .string x.value, .int .i64 x.effect]] w fun e w' => e = .returned (.bool true) ∧ Below w.heap.size w w' := by
  obtain ⟨a0, a1, a2, a3⟩ := x
  simp only
  have Hb : Hid (∀ (a b : Obj), Below w.heap.size w ((w.alloc a).alloc b)) := fun a b => ((Below.refl _ _).alloc (Nat.le_refl _) a).alloc (by simp) b
  go_enter Tryd.func69, Tryd.ntmps69
  go_wp2_with fail
  go_ret
  exact ⟨rfl, Hb.out _ _⟩
end Go.Proofs.YtdgedclpaplgoaaDoor.ty
namespace Go.Proofs.YtdgedclpaplgoaaDoor.ty
open Go.ChangeShapes Go.WideShapes Go.ChangeAt Go.RowKit
set_option linter.unusedVariables false

set_option maxRecDepth 100000 in
theorem eqToleranceS (l : List Tolerance) (f1 f2 : Nat) (v1 v2 : Value) (w : World) (h1 : Lies w f1 v1 (.sl 4 l.length (l.flatMap Tolerance.row))) (h2 : Lies w f2 v2 (.sl 4 l.length (l.flatMap Tolerance.row))) :
    Calls Tryd.prog 34 #[v1, v2] w fun e w' => e = .returned (.bool true) ∧ Below w.heap.size w w' := by
  obtain ⟨A1, c1, rfl, hc1, hm1, f', rfl, hk1⟩ := els_of Tolerance.row_length h1
  obtain ⟨A2, c2, rfl, hc2, hm2, f'', rfl, hk2⟩ := els_of Tolerance.row_length h2
  unfold maxLen at hm1 hm2
  have Hk1 := Lib.hid hk1
  have Hk2 := Lib.hid hk2
  clear h1 h2 hk1 hk2
  go_enter Tryd.func34, Tryd.ntmps34
  go_wp2_with fail
  go_loopw [5] (fun i wr => ∃ (j : Nat), j ≤ l.length ∧ i = .int .i64 j ∧ Below w.heap.size w wr) (fun i _ => l.length - (intOf i).toNat)
  case atStart => exact ⟨0, Nat.zero_le _, rfl, Below.refl _ _⟩
  case round =>
    obtain ⟨j, hj, rfl, hbel⟩ := hrel
    by_cases hlt : j < l.length
    · obtain ⟨g1, o1, rfl, hg1, us, hus1, hcc1, hls1⟩ := (Hk1.out.below hbel).get hlt
      obtain ⟨g2, o2, rfl, hg2, us2, hus2, hcc2, hls2⟩ := (Hk2.out.below hbel).get hlt
      obtain ⟨rfl, hwf1⟩ := Tolerance.opened hls1
      obtain ⟨rfl, hwf2⟩ := Tolerance.opened hls2
      have q0 : wr.cell? ⟨g1, o1 + j * 4, none⟩ = some (.string l[j].key) := hcc1 0 _ rfl
      have q1 : wr.cell? ⟨g1, o1 + j * 4 + 1, none⟩ = some (.bool l[j].equal) := hcc1 1 _ rfl
      have q2 : wr.cell? ⟨g1, o1 + j * 4 + 2, none⟩ = some (.string l[j].value) := hcc1 2 _ rfl
      have q3 : wr.cell? ⟨g1, o1 + j * 4 + 3, none⟩ = some (.int .i64 l[j].effect) := hcc1 3 _ rfl
      have r0 : wr.cell? ⟨g2, o2 + j * 4, none⟩ = some (.string l[j].key) := hcc2 0 _ rfl
      have r1 : wr.cell? ⟨g2, o2 + j * 4 + 1, none⟩ = some (.bool l[j].equal) := hcc2 1 _ rfl
      have r2 : wr.cell? ⟨g2, o2 + j * 4 + 2, none⟩ = some (.string l[j].value) := hcc2 2 _ rfl
      have r3 : wr.cell? ⟨g2, o2 + j * 4 + 3, none⟩ = some (.int .i64 l[j].effect) := hcc2 3 _ rfl
      have HC := Lib.hid (fun w1 => eqTolerance l[j] w1)
      have Hbel := Lib.hid hbel
      clear hls1 hls2 hbel hg1 hg2 hus1 hus2 hcc1 hcc2 hwf1 hwf2
      generalize l[j] = x at HC q0 q1 q2 q3 r0 r1 r2 r3
      go_wp2_with fail
      go_region_law (go_simp; go_at_call 69; refine (HC.out _).mono ?_; rintro e w1 ⟨rfl, hb1⟩)
      all_goals
        have hbel1 := Hbel.out.trans (((Below.refl _ _).drew.trans (hb1.mono (Nat.le_refl _))).mono Hbel.out.size)
        clear hb1 q0 q1 q2 q3 r0 r1 r2 r3
        go_wp2_with fail
        go_roundw
        case rel => exact ⟨j + 1, by omega, by go_num, hbel1⟩
        case measure => simp [intOf]; omega
    · obtain rfl : j = l.length := by omega
      have Hbel := Lib.hid hbel
      clear hbel
      go_wp2_with fail
      go_ret
      exact ⟨rfl, Hbel.out⟩
end Go.Proofs.YtdgedclpaplgoaaDoor.ty
