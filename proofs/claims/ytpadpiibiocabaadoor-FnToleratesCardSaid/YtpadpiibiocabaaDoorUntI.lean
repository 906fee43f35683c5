/- impl.Untolerated, its closure, slices.ContainsFunc and IndexFunc at tolerations. -/
import Derived.Test.YtpadpiibiocabaaDoorTlrtI
import Derived.Test.YtpadpiibiocabaaDoorGTnP
import Derived.Test.YtpadpiibiocabaaDoorGFl
import Derived.Test.YtpadpiibiocabaaDoorGQ
namespace Go.Proofs.YtpadpiibiocabaaDoor.taint
open Go.ChangeShapes Go.WideShapes Go.ChangeAt Go.RowKit ty lab need
set_option linter.unusedVariables false

/-- The taint that is asked about stands in its box. -/
def BoxT (w : World) (b : Nat) (x : Taint) : Prop := RowE 32 w b [.string x.key, .string x.value, .int .i64 x.effect]
set_option maxRecDepth 100000 in
set_option maxHeartbeats 8000000 in
theorem clos_tlr (t : Tolerance) (x : Taint) (b : Nat) (w : World) (ht : t.Wf) (hx : x.Wf) (hb : BoxT w b x) :
    Calls Tryd.prog 49 #[.agg #[.string t.key, .bool t.equal, .string t.value, .int .i64 t.effect], .pointer (some ⟨b, 0, none⟩)] w fun e w' => e = .returned (.bool (tolF t x)) ∧ Below w.heap.size w w' := by
  have HT := Lib.hid (fun w' => impl_tlr t x w' ht hx)
  have hr := RowE.alloc (e2 := 30) (vs := [.string t.key, .bool t.equal, .string t.value, .int .i64 t.effect]) hb
  have p0 := hr.cell 0 _ rfl
  have p1 := hr.cell 1 _ rfl
  have p2 := hr.cell 2 _ rfl
  have Hb := Lib.hid (fun o : Obj => (Below.refl w.heap.size w).alloc (Nat.le_refl _) o)
  clear ht hx hb hr
  generalize tolF t x = r at HT ⊢
  go_enter Tryd.func49, Tryd.ntmps49
  go_wp2_with fail
  refine (HT.out _).mono ?_
  rintro e w1 ⟨rfl, hb⟩
  have G := Lib.hid (below_link (Hb.out _) hb (Hb.out _).size)
  clear hb
  go_wp2_with fail
  go_ret
  exact ⟨rfl, G.out⟩
set_option maxRecDepth 100000 in
set_option maxHeartbeats 16000000 in
theorem index_tlr (ls : List Tolerance) (x : Taint) (b : Nat) (f : Nat) (v : Value) (w : World) (h : Lies w f v (.sl 4 ls.length (ls.flatMap Tolerance.row))) (hx : x.Wf) (hb : BoxT w b x) :
    Calls Tryd.prog 76 #[v, .func (.func 49) #[] #[.pointer (some ⟨b, 0, none⟩)]] w fun e w' => (∃ r : Int, e = .returned (.int .i64 r) ∧ decide (0 ≤ r) = anyT ls x) ∧ Below w.heap.size w w' := by
  obtain ⟨A, c, rfl, hc1, hc2, f', rfl, hk⟩ := els_of Tolerance.row_length h
  unfold maxLen at hc2
  have Hk := Lib.hid hk
  have Hb := Lib.hid hb
  clear h hk hb
  go_enter Tryd.func76, Tryd.ntmps76
  go_wp2_with fail
  go_loopw [8] (fun i wr => ∃ j : Nat, j ≤ ls.length ∧ i = .int .i64 j ∧ Hid (∀ q (hq : q < ls.length), q < j → tolF ls[q] x = false) ∧ Below w.heap.size w wr) (fun i _ => ls.length - (intOf i).toNat)
  case atStart => exact ⟨0, Nat.zero_le _, rfl, fun q _ hq => by omega, Below.refl _ _⟩
  case round =>
    obtain ⟨j, hj, rfl, hall, hbel⟩ := hrel
    have Hbel := Lib.hid hbel
    by_cases hlt : j < ls.length
    · obtain ⟨g, o, rfl, hg, us, hus, hc, hls⟩ := (Hk.out.below hbel).get hlt
      obtain ⟨rfl, hwf⟩ := Tolerance.opened hls
      have q0 : wr.cell? ⟨g, o + j * 4, none⟩ = some (.string ls[j].key) := hc 0 _ rfl
      have q1 : wr.cell? ⟨g, o + j * 4 + 1, none⟩ = some (.bool ls[j].equal) := hc 1 _ rfl
      have q2 : wr.cell? ⟨g, o + j * 4 + 2, none⟩ = some (.string ls[j].value) := hc 2 _ rfl
      have q3 : wr.cell? ⟨g, o + j * 4 + 3, none⟩ = some (.int .i64 ls[j].effect) := hc 3 _ rfl
      have HC := Lib.hid (clos_tlr ls[j] x b wr hwf hx (Hb.out.below hbel))
      have hj0 : (0 : Int) ≤ (j : Int) := by omega
      have hjn : (j : Int) < (ls.length : Int) := by omega
      clear hc hls hus hwf hbel
      cases hr : tolF ls[j] x with
      | true =>
        rw [hr] at HC
        have Hf := Lib.hid (anyT_some hlt hr)
        clear hr hall
        generalize ls[j] = t at *
        go_wp2_with fail
        refine HC.out.mono ?_
        rintro e w1 ⟨rfl, hb⟩
        have G := Lib.hid (below_link Hbel.out hb Hbel.out.size)
        clear hb
        go_wp2_with fail
        go_ret
        exact ⟨⟨j, rfl, by rw [Hf.out]; exact decide_eq_true hj0⟩, G.out⟩
      | false =>
        rw [hr] at HC
        have Hn : Hid (∀ q (hq : q < ls.length), q < j + 1 → tolF ls[q] x = false) := fun q hq hq2 => by
          by_cases e : q = j
          · subst e; exact hr
          · exact hall.out q hq (by omega)
        clear hr hall
        generalize ls[j] = t at q0 q1 q2 q3 HC
        go_wp2_with fail
        refine HC.out.mono ?_
        rintro e w1 ⟨rfl, hb⟩
        have G := Lib.hid (below_link Hbel.out hb Hbel.out.size)
        clear hb
        go_wp2_with fail
        go_roundw
        case rel => exact ⟨j + 1, by omega, by go_num, Hn.out, G.out⟩
        case measure => simp [intOf]; omega
    · obtain rfl : j = ls.length := by omega
      have Hf := Lib.hid (anyT_none (l := ls) (x := x) fun q hq => hall.out q hq hq)
      clear hall hbel
      go_wp2_with fail
      go_ret
      exact ⟨⟨-1, rfl, by rw [Hf.out]; rfl⟩, Hbel.out⟩
set_option maxRecDepth 100000 in
theorem contains_tlr (ls : List Tolerance) (x : Taint) (b : Nat) (f : Nat) (v : Value) (w : World) (h : Lies w f v (.sl 4 ls.length (ls.flatMap Tolerance.row))) (hx : x.Wf) (hb : BoxT w b x) :
    Calls Tryd.prog 50 #[v, .func (.func 49) #[] #[.pointer (some ⟨b, 0, none⟩)]] w fun e w' => e = .returned (.bool (anyT ls x)) ∧ Below w.heap.size w w' := by
  have HI := Lib.hid (index_tlr ls x b f v w h hx hb)
  clear h hx hb
  go_enter Tryd.func50, Tryd.ntmps50
  go_wp2_with fail
  refine HI.out.mono ?_
  rintro e w1 ⟨⟨r, rfl, hr⟩, hb⟩
  have Hr := Lib.hid hr
  have G := Lib.hid hb
  clear hr hb
  go_wp2_with fail
  go_ret
  exact ⟨by rw [← Hr.out]; rfl, G.out⟩
set_option maxRecDepth 100000 in
set_option maxHeartbeats 32000000 in
theorem impl_untol (ls : List Tolerance) (xs : List Taint) (e : Int) (f1 f2 : Nat) (v1 v2 : Value) (w : World) (h1 : Lies w f1 v1 (.sl 4 ls.length (ls.flatMap Tolerance.row))) (h2 : Lies w f2 v2 (.sl 3 xs.length (xs.flatMap Taint.row))) :
    Calls Tryd.prog 14 #[v1, v2, .int .i64 e] w fun r w' => r = .returned (.int .i64 (unF ls xs e)) ∧ Below w.heap.size w w' := by
  have HL := Lib.hid (fun (w' : World) (hb : Below w.heap.size w w') => h1.below (w := w) hb)
  obtain ⟨A1, c1, rfl, hc11, hc12, _⟩ := els_of Tolerance.row_length h1
  obtain ⟨A2, c2, rfl, hc21, hc22, f2', rfl, hk2⟩ := els_of Taint.row_length h2
  unfold maxLen at hc12 hc22
  have Hk2 := Lib.hid hk2
  clear h1 h2 hk2
  go_enter Tryd.func14, Tryd.ntmps14
  go_wp2_with fail
  go_loopw [7, 13] (fun nv i wr => ∃ j n : Nat, j ≤ xs.length ∧ i = .int .i64 j ∧ nv = .int .i64 n ∧ n ≤ j ∧ Hid (unF ls (xs.take j) e = n) ∧ Below w.heap.size w wr) (fun _ i _ => xs.length - (intOf i).toNat)
  case atStart => exact ⟨0, 0, Nat.zero_le _, rfl, rfl, Nat.le_refl _, by unfold Hid; rfl, Below.refl _ _⟩
  case round =>
    obtain ⟨j, n, hj, rfl, rfl, hnj, hun, hbel⟩ := hrel
    have Hbel := Lib.hid hbel
    by_cases hlt : j < xs.length
    · obtain ⟨g, o, rfl, hg, us, hus, hc, hls⟩ := (Hk2.out.below hbel).get hlt
      obtain ⟨rfl, hwf⟩ := Taint.opened hls
      have q0 : wr.cell? ⟨g, o + j * 3, none⟩ = some (.string xs[j].key) := hc 0 _ rfl
      have q1 : wr.cell? ⟨g, o + j * 3 + 1, none⟩ = some (.string xs[j].value) := hc 1 _ rfl
      have q2 : wr.cell? ⟨g, o + j * 3 + 2, none⟩ = some (.int .i64 xs[j].effect) := hc 2 _ rfl
      have Hnx := Lib.hid (unF_next (l := ls) e hlt)
      have hj0 : (0 : Int) ≤ (j : Int) := by omega
      have hjn : (j : Int) < (xs.length : Int) := by omega
      have HBb := Lib.hid (fun o : Obj => hbel.alloc hbel.size o)
      have HC := Lib.hid (fun (u : World) (hb : Below w.heap.size w u) (hx : BoxT u wr.heap.size xs[j]) => contains_tlr ls xs[j] wr.heap.size _ _ u (HL.out u hb) hwf hx)
      have HX := Lib.hid (RowE.new 32 wr [.string xs[j].key, .string xs[j].value, .int .i64 xs[j].effect])
      rw [keptBy_eq] at Hnx
      clear hc hls hus hwf hbel
      generalize xs[j] = x at *
      obtain ⟨b0, hb0⟩ : ∃ b, (x.effect == e) = b := ⟨_, rfl⟩
      rw [hb0] at Hnx
      cases b0 with
      | false =>
        have Hn2 : Hid (unF ls (xs.take (j + 1)) e = n) := by unfold Hid; rw [Hnx.out, hun.out]; simp
        clear HC HX
        go_wp2_with fail
        go_roundw
        case rel => exact ⟨j + 1, n, by omega, by go_num, rfl, by omega, Hn2.out, HBb.out _⟩
        case measure => simp [intOf]; omega
      | true =>
        have HC2 := Lib.hid (HC.out _ (HBb.out _) HX.out)
        clear HC
        cases hr : anyT ls x with
        | true =>
          rw [hr] at Hnx HC2
          have Hn2 : Hid (unF ls (xs.take (j + 1)) e = n) := by unfold Hid; rw [Hnx.out, hun.out]; simp
          clear hr
          go_wp2_with fail
          refine HC2.out.mono ?_
          rintro e' w1 ⟨rfl, hb⟩
          have G := Lib.hid (below_link (HBb.out _) hb (HBb.out _).size)
          clear hb
          go_wp2_with fail
          go_roundw
          case rel => exact ⟨j + 1, n, by omega, by go_num, rfl, by omega, Hn2.out, G.out⟩
          case measure => simp [intOf]; omega
        | false =>
          rw [hr] at Hnx HC2
          have Hn2 : Hid (unF ls (xs.take (j + 1)) e = n + 1) := by unfold Hid; rw [Hnx.out, hun.out]; simp
          clear hr
          go_wp2_with fail
          refine HC2.out.mono ?_
          rintro e' w1 ⟨rfl, hb⟩
          have G := Lib.hid (below_link (HBb.out _) hb (HBb.out _).size)
          clear hb
          go_wp2_with fail
          go_roundw
          case rel => exact ⟨j + 1, n + 1, by omega, by go_num, by go_num, by omega, Hn2.out, G.out⟩
          case measure => simp [intOf]; omega
    · obtain rfl : j = xs.length := by omega
      have Hn2 : Hid (unF ls xs e = n) := by have := hun.out; rw [List.take_length] at this; exact this
      clear hun hbel
      go_wp2_with fail
      go_ret
      exact ⟨by rw [Hn2.out]; rfl, Hbel.out⟩
end Go.Proofs.YtpadpiibiocabaaDoor.taint
